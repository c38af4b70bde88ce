import Derived.Test.YtaobnnlcfefodaaGreatDoorTw
import Derived.Test.YtaobnnlcfefodaaGreatDoorSl
import Derived.Laws.Concat
namespace Go.Proofs.YtaobnnlcfefodaaGreatDoor
open Go.RowKit TextNum

/-- two ends beside one another -/
def bk (l : List UInt8) (i : Nat) : Prop := l[i]? = some 10 ∧ l[i + 1]? = some 10
theorem occ_bk (l : List UInt8) (i : Nat) : Go.Lib.occAt l [10, 10] i = true ↔ bk l i := by
  unfold Go.Lib.occAt bk
  rw [← List.getElem?_drop (i := i) (j := 1)]
  have h0 : l[i]? = (l.drop i)[0]? := by simp
  rw [h0]
  match l.drop i with
  | [] => simp [List.isPrefixOf]
  | [a] => simp [List.isPrefixOf]
  | a :: b :: r =>
    simp [List.isPrefixOf]
    constructor <;> rintro ⟨h1, h2⟩ <;> exact ⟨h1.symm, h2.symm⟩
theorem lastIndex_bk (l : List UInt8) : (Go.Lib.lastIndex l [10, 10] = -1 ∧ ∀ j, ¬ bk l j) ∨ (∃ i : Nat, i + 1 < l.length ∧ Go.Lib.lastIndex l [10, 10] = i ∧ bk l i ∧ ∀ j, i < j → ¬ bk l j) := by
  have hlt : ∀ j, bk l j → j + 1 < l.length := fun j h => (List.getElem?_eq_some_iff.1 h.2).1
  unfold Go.Lib.lastIndex
  split
  · rename_i h2
    simp at h2
    rcases Go.Lib.lastOcc_spec l [10, 10] (l.length - [10, 10].length + 1) with ⟨e, hn⟩ | ⟨i, hi, e, hc, hn⟩
    · refine .inl ⟨e, fun j hj => ?_⟩
      have := hn j (by have := hlt j hj; simp; omega)
      rw [(occ_bk l j).2 hj] at this; cases this
    · have hb := (occ_bk l i).1 hc
      refine .inr ⟨i, hlt i hb, e, hb, fun j hij hj => ?_⟩
      have := hn j hij (by have := hlt j hj; simp; omega)
      rw [(occ_bk l j).2 hj] at this; cases this
  · rename_i h2
    refine .inl ⟨rfl, fun j hj => ?_⟩
    have := hlt j hj
    simp at h2; omega

set_option maxRecDepth 100000 in
theorem tooLong_walk (s : ByteArray) (w : World) : Calls Tryz.prog 50 #[.string s] w fun e w' => e = .returned (.bool (decide (1048576 < s.size))) ∧ w' = w := by
  go_enter Tryz.func50, Tryz.ntmps50
  go_wp2
  go_ret
  refine ⟨congrArg (fun b => Ending.returned (Value.bool b)) (show decide ((1048576 : Int) < (s.size : Int)) = decide (1048576 < s.size) from ?_), rfl⟩
  rw [decide_eq_decide]
  omega

/-- what Cut answers -/
def cutV (s : ByteArray) (r : Value) : Prop :=
  (r = .tuple #[.string ⟨#[]⟩, .string ⟨#[]⟩, .bool false] ∧ (1048576 < s.size ∨ ∀ j, ¬ bk s.data.toList j)) ∨
  (∃ i, r = .tuple #[.string (s.extract 0 (i + 1)), .string (s.extract (i + 2) s.size), .bool true] ∧ s.size ≤ 1048576 ∧ i + 1 < s.size ∧ bk s.data.toList i ∧ ∀ j, i < j → ¬ bk s.data.toList j)
set_option maxRecDepth 100000 in
theorem Cut_walk (s : ByteArray) (w : World) : Calls Tryz.prog 44 #[.string s] w fun e w' => ∃ r, e = .returned r ∧ cutV s r ∧ Up w w' := by
  go_enter Tryz.func44, Tryz.ntmps44
  go_wp2_with fail
  refine (tooLong_walk s w).mono ?_
  rintro e w' ⟨rfl, hw⟩
  obtain rfl := hw.symm
  dsimp only
  by_cases h1 : 1048576 < s.size
  · have d1 : decide (1048576 < s.size) = true := by simpa using h1
    rw [d1]
    go_wp2
    go_ret3
    exact ⟨_, rfl, .inl ⟨rfl, .inl h1⟩, Up.refl _⟩
  · have d1 : decide (1048576 < s.size) = false := by simpa using h1
    rw [d1]
    have hle : s.size ≤ 1048576 := by omega
    clear d1 h1
    go_wp2_with fail
    refine Calls.mono (Go.Proofs.Any.strings_LastIndex Tryz.lays148 s ⟨#[10, 10]⟩ (by omega) w) ?_
    rintro e w' ⟨rfl, hw⟩
    obtain rfl := hw.symm
    rw [show (⟨#[10, 10]⟩ : ByteArray).data.toList = [10, 10] from rfl]
    rcases lastIndex_bk s.data.toList with ⟨e1, hno⟩ | ⟨i, hi, e1, hb, hno⟩
    · rw [e1]
      have HN := Hid.of hno
      clear hno e1
      dsimp only
      go_wp2
      go_ret3
      exact ⟨_, rfl, .inl ⟨rfl, .inr HN.out⟩, Up.refl _⟩
    · rw [e1]
      rw [← Go.Lib.size_eq] at hi
      have HN := Hid.of (And.intro hb hno)
      clear hno e1 hb
      have b0 : ¬ (i : Int) < 0 := by omega
      obtain ⟨j, hj⟩ : ∃ j, j = i + 1 := ⟨_, rfl⟩
      obtain ⟨k, hk⟩ : ∃ k, k = i + 2 := ⟨_, rfl⟩
      have ej : IntKind.i64.wrap ((i : Int) + 1) = (j : Int) := by
        simp only [IntKind.wrap, IntKind.signed, IntKind.bits]; simp; omega
      have ek : IntKind.i64.wrap ((i : Int) + 2) = (k : Int) := by
        simp only [IntKind.wrap, IntKind.signed, IntKind.bits]; simp; omega
      have hjs : (j : Int) ≤ (s.size : Int) := by omega
      have hks : (k : Int) ≤ (s.size : Int) := by omega
      have HJ := Hid.of (And.intro hj hk)
      clear hj hk
      dsimp only
      go_wp2_with fail
      go_quiet (fail)
      go_wp2
      go_ret3
      obtain ⟨rfl, rfl⟩ := HJ.out
      exact ⟨_, rfl, .inr ⟨i, rfl, hle, hi, HN.out.1, HN.out.2⟩, (Up.refl _).drewN _⟩

end Go.Proofs.YtaobnnlcfefodaaGreatDoor
