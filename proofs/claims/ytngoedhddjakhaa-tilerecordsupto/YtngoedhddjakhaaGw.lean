import Derived.Test.YtngoedhddjakhaaGv
namespace Go.Proofs.Ytngoedhddjakhaa
open Go.RowKit TextNum
/-- nothing, or a list of one's own -/
def OwnO (w : World) (B : Nat) (v : Value) (l : List UInt8) : Prop := (v = .slice none 0 0 ∧ l = []) ∨ OwnN w B v l
def wr7 (x : UInt8) (l : List UInt8) (i : Nat) : List UInt8 := List.replicate i x ++ l.drop i
theorem wr7_len {x : UInt8} {l : List UInt8} {i : Nat} (h : i ≤ l.length) : (wr7 x l i).length = l.length := by simp [wr7]; omega
theorem wr7_set {x : UInt8} {l : List UInt8} {i : Nat} (h : i < l.length) : (wr7 x l i).set i x = wr7 x l (i + 1) := by
  unfold wr7
  rw [List.drop_eq_getElem_cons h, List.set_append, if_neg (by simp), List.length_replicate, Nat.sub_self, List.set_cons_zero, List.replicate_succ', List.append_assoc]
  rfl
/-- two lists of bytes side by side -/
def Two (w : World) (b : Nat) (v1 v2 : Value) (x : UInt8) (n1 n2 : Nat) : Prop := w.cell? ⟨b, 0, none⟩ = some v1 ∧ w.cell? ⟨b, 1, none⟩ = some v2 ∧ Sl w v1 (List.replicate n1 x) ∧ Sl w v2 (List.replicate n2 x)
theorem Two.up {w w' : World} {b : Nat} {v1 v2 : Value} {x : UInt8} {n1 n2 : Nat} (h : Two w b v1 v2 x n1 n2) (u : Up w w') : Two w' b v1 v2 x n1 n2 := ⟨u.cell h.1, u.cell h.2.1, h.2.2.1.up u, h.2.2.2.up u⟩
theorem grown_trans {a b c : World} {row : Option Nat} (h : a.grownBy b row) (k : b.grownBy c row) : a.grownBy c row := ⟨k.os.trans h.os, k.tape.trans h.tape, k.output.trans h.output, Nat.le_trans h.size k.size, fun i hi hr => (k.block i (Nat.lt_of_lt_of_le hi h.size) hr).trans (h.block i hi hr)⟩
theorem grown_up {a b c : World} {row : Option Nat} (h : a.grownBy b row) (k : Up b c) : a.grownBy c row := ⟨k.os.trans h.os, k.tape.trans h.tape, k.output.trans h.output, Nat.le_trans h.size k.size, fun i hi hr => (k.block i (Nat.lt_of_lt_of_le hi h.size)).trans (h.block i hi hr)⟩
theorem grown_refl (a : World) (row : Option Nat) : a.grownBy a row := ⟨rfl, rfl, rfl, Nat.le_refl _, fun _ _ _ => rfl⟩
set_option maxRecDepth 100000 in
set_option maxHeartbeats 2000000 in
theorem owned_walk (B : Nat) (v : Value) (l : List UInt8) (x : UInt8) (w : World) (h : OwnO w B v l) (hl : l.length ≤ 1048576) :
    Calls Try.prog 16 #[v, .int .u8 (x.toNat : Int)] w fun e w' => ∃ b v2, e = .returned (.slice (some ⟨b, 0, none⟩) 2 2) ∧ w.heap.size ≤ b ∧ Two w' b v v2 x l.length (l.length + 1) ∧ w.grownBy w' v.ownBlock ∧ ∀ g, v2.ownBlock = some g → v.ownBlock = some g ∨ w.heap.size ≤ g := by
  rcases h with ⟨rfl, rfl⟩ | h
  · go_enter Try.func16, Try.ntmps16
    go_wp2
    go_loopw [5] (fun v5 wr => v5 = .int .i64 0 ∧ wr = w) (fun _ _ => 0)
    case atStart => exact ⟨rfl, rfl⟩
    case round =>
      obtain ⟨rfl, hwr⟩ := hrel
      obtain rfl : w = wr := hwr.symm
      clear hwr
      go_wp2_with (with_reducible show wpList _ _ _ ({ dst := _, op := Op.call { callee := Callee.builtin Builtin.append, args := _, argTypes := _ }, type := _, pos := _, after := _, guard := _ } :: _) _ _; refine Shut.out ?_)
      show wpList _ _ _ _ _ _
      refine wpList_app1 rfl _ _ rfl w.heap.size (.slice none 0 0) [] [x] rfl (World.ownsRow_nil _ _ 5 1) 1 rfl (by simp) (Nat.le_refl _) ?_
      intro v7 w7 hO7 b7
      simp only [Act.put, List.setIfInBounds_toArray, List.set_cons_zero, List.set_cons_succ]
      obtain ⟨a7, c7, rfl⟩ := hO7.len
      have H7 := Hid.of (And.intro hO7.sl b7)
      have HB7 := Hid.of (fun g hg => (World.ownsRow.lt hO7 g hg).1)
      clear hO7 b7
      go_wp2
      go_ret
      have hu : Up w7 (w7.alloc (Obj.cells #[.slice none 0 0, .slice a7 1 c7] 23)) := (Up.refl w7).alloc _
      refine ⟨w7.heap.size, _, rfl, H7.out.2.size, ⟨?_, ?_, ⟨none, 0, rfl, Nat.le_refl _, .inl rfl⟩, by exact H7.out.1.up hu⟩, ?_⟩
      · rw [World.cell?_alloc_at _ _ _ _ rfl]; rfl
      · rw [World.cell?_alloc_at _ _ _ _ rfl]; rfl
      · have h1 : Up w w7 := H7.out.2
        exact ⟨grown_up (grown_up (grown_refl w _) h1) hu, fun g hg => .inr (HB7.out g hg)⟩
  · obtain ⟨g, off, cap, rfl⟩ := h.len
    obtain ⟨n, hn⟩ : ∃ n, l.length = n := ⟨_, rfl⟩
    rw [hn] at h hl ⊢
    have HO := Hid.of h
    clear h
    go_enter Try.func16, Try.ntmps16
    go_wp2
    go_loopw [5] (fun v5 wr => ∃ i : Nat, v5 = .int .i64 (i : Int) ∧ i ≤ n ∧ Hid (OwnN wr B (.slice (some ⟨g, off, none⟩) n cap) (wr7 x l i) ∧ w.grownBy wr (some g))) (fun v5 _ => n - (intOf v5).toNat)
    case atStart => exact ⟨0, rfl, by omega, by simpa [wr7] using HO.out, grown_refl w _⟩
    case round =>
      obtain ⟨i, rfl, hi, hI⟩ := hrel
      by_cases hlt : i < n
      · have hlt' : (i : Int) < (n : Int) := by omega
        obtain ⟨k1, k2, k3⟩ := hI.out.1.store i (by rw [wr7_len (by omega)]; omega) x
        rw [wr7_set (by omega)] at k3
        have HN := Hid.of (And.intro k3 (grown_trans hI.out.2 (grown_set wr ⟨g, off + i, none⟩ (.int .u8 (x.toNat : Int)))))
        clear k3
        go_wp2
        go_roundw
        case rel => exact ⟨i + 1, by go_num, by omega, by exact HN⟩
        case measure => simp [intOf]; omega
      · have hlt' : ¬ (i : Int) < (n : Int) := by omega
        have hin : i = l.length := by omega
        have hfull : wr7 x l i = List.replicate n x := by unfold wr7; rw [hin, hn]; simp [← hn]
        have HI := Hid.of (show OwnN wr B (.slice (some ⟨g, off, none⟩) n cap) (List.replicate n x) ∧ w.grownBy wr (some g) from by rw [← hfull]; exact hI.out)
        have hI2 := Hid.of hI.out.2
        clear hfull hin hI
        go_wp2_with (with_reducible show wpList _ _ _ ({ dst := _, op := Op.call { callee := Callee.builtin Builtin.append, args := _, argTypes := _ }, type := _, pos := _, after := _, guard := _ } :: _) _ _; refine Shut.out ?_)
        show wpList _ _ _ _ _ _
        refine wpList_appN rfl _ _ rfl B _ (List.replicate n x) x rfl (by exact HI.out.1.up ((Up.refl wr).alloc _)) ⟨wr.heap.size, 0, none⟩ 1 rfl (by rw [World.cell?_alloc_at _ _ _ _ rfl]; rfl) (by simp; omega) ?_
        intro v7 w7 h1 h2 h3 h4
        simp only [Act.put, List.setIfInBounds_toArray, List.set_cons_zero, List.set_cons_succ]
        obtain ⟨a7, n7, c7, rfl⟩ : ∃ a7 n7 c7, v7 = .slice a7 n7 c7 := by
          obtain ⟨a7, c7, e, _⟩ := h1
          exact ⟨_, _, _, e⟩
        have H7 := Hid.of (And.intro h1 (And.intro h2 (grown_trans (grown_up hI2.out ((Up.refl wr).alloc _)) h3)))
        have HB7 : Hid (∀ g', (Value.slice a7 n7 c7).ownBlock = some g' → (Value.slice (some ⟨g, off, none⟩) n cap).ownBlock = some g' ∨ w.heap.size ≤ g') := fun g' hg' => by
          rcases (h4 g' hg').1 with e | e
          · exact .inl e
          · have := hI2.out.size
            rw [alloc_size] at e
            exact .inr (by omega)
        clear h1 h2 h3 h4
        go_wp2
        go_ret
        have hu : Up w7 (w7.alloc (Obj.cells #[.slice (some ⟨g, off, none⟩) n cap, .slice a7 n7 c7] 23)) := (Up.refl w7).alloc _
        refine ⟨w7.heap.size, _, rfl, H7.out.2.2.size, ⟨?_, ?_, by exact H7.out.2.1.up hu, by have := H7.out.1.up hu; rw [← List.replicate_succ'] at this; exact this⟩, grown_up H7.out.2.2 hu, HB7.out⟩
        · rw [World.cell?_alloc_at _ _ _ _ rfl]; rfl
        · rw [World.cell?_alloc_at _ _ _ _ rfl]; rfl
set_option maxRecDepth 100000 in
set_option maxHeartbeats 2000000 in
theorem marked_walk (b : Nat) (v1 v2 : Value) (x : UInt8) (n1 n2 c : Nat) (w : World) (h : Two w b v1 v2 x n1 n2) (h1 : n1 ≤ 1048577) (h2 : n2 ≤ 1048577) :
    Calls Try.prog 17 #[.slice (some ⟨b, 0, none⟩) 2 c, .int .u8 (x.toNat : Int)] w fun e w' => e = .returned (.bool true) ∧ w' = w := by
  obtain ⟨k1, k2, s1, s2⟩ := h
  obtain ⟨m, HM⟩ : ∃ m : Nat → Nat, Hid (∀ i, i < 2 → ∃ a c, w.cell? ⟨b, i, none⟩ = some (.slice a (m i) c) ∧ m i ≤ 1048577 ∧ ∀ j, j < m i → ∃ g off, a = some ⟨g, off, none⟩ ∧ w.cell? ⟨g, off + j, none⟩ = some (.int .u8 (x.toNat : Int))) := by
    have key : ∀ (v : Value) (n : Nat), Sl w v (List.replicate n x) → ∃ a c, v = .slice a n c ∧ ∀ j, j < n → ∃ g off, a = some ⟨g, off, none⟩ ∧ w.cell? ⟨g, off + j, none⟩ = some (.int .u8 (x.toNat : Int)) := fun v n hs => by
      obtain ⟨a, c, e, _, h⟩ := hs
      refine ⟨a, c, by simpa using e, fun j hj => ?_⟩
      rcases h with h | ⟨g, off, e2, _, h⟩
      · have := congrArg List.length h
        simp at this
        omega
      · refine ⟨g, off, e2, ?_⟩
        have := h j (by simpa using hj)
        simpa using this
    obtain ⟨a1, c1, rfl, f1⟩ := key v1 n1 s1
    obtain ⟨a2, c2, rfl, f2⟩ := key v2 n2 s2
    refine ⟨fun i => if i = 0 then n1 else n2, Hid.of (fun i hi => ?_)⟩
    match i, hi with
    | 0, _ => exact ⟨a1, c1, k1, h1, f1⟩
    | 1, _ => exact ⟨a2, c2, k2, h2, f2⟩
  clear k1 k2 s1 s2
  go_enter Try.func17, Try.ntmps17
  go_wp2
  go_loopw [5, 6] (fun v5 _ wr => ∃ i : Nat, v5 = .int .i64 (i : Int) ∧ i ≤ 2 ∧ wr = w) (fun v5 _ _ => 2 - (intOf v5).toNat)
  case atStart => exact ⟨0, rfl, by omega, rfl⟩
  case round =>
    obtain ⟨i, rfl, hi, hwr⟩ := hrel
    obtain rfl : w = wr := hwr.symm
    clear hwr
    by_cases hlt : i < 2
    · have hlt' : (i : Int) < 2 := by omega
      obtain ⟨a, c2, kc, hm, hc⟩ := HM.out i hlt
      have HC := Hid.of hc
      clear hc
      generalize m i = n at *
      go_wp2
      go_loopw [6] (fun v6 wr => ∃ j : Nat, v6 = .int .i64 (j : Int) ∧ j ≤ n ∧ wr = w) (fun v6 _ => n - (intOf v6).toNat)
      case atStart => exact ⟨0, rfl, by omega, rfl⟩
      case round =>
        obtain ⟨j, rfl, hj, hwr⟩ := hrel
        obtain rfl : w = wr := hwr.symm
        clear hwr
        by_cases hjl : j < n
        · have hjl' : (j : Int) < (n : Int) := by omega
          obtain ⟨g, off, rfl, hcell⟩ := HC.out j hjl
          go_wp2
          go_roundw
          case rel => exact ⟨j + 1, by go_num, by omega, by simp⟩
          case measure => simp [intOf]; omega
        · have hjl' : ¬ (j : Int) < (n : Int) := by omega
          go_wp2
          go_roundw
          case rel => exact ⟨i + 1, by go_num, by omega, by simp⟩
          case measure => simp [intOf]; omega
    · have hlt' : ¬ (i : Int) < 2 := by omega
      go_wp2
      go_ret
      exact ⟨rfl, rfl⟩
end Go.Proofs.Ytngoedhddjakhaa
