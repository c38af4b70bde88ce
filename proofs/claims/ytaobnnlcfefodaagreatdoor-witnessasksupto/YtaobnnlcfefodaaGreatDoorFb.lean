import Derived.Test.YtaobnnlcfefodaaGreatDoorFa
import Derived.Test.YtaobnnlcfefodaaGreatDoorOp
import Derived.Test.YtaobnnlcfefodaaGreatDoorNm
namespace Go.Proofs.YtaobnnlcfefodaaGreatDoor
open Go.RowKit TextNum
/-- a list of signatures that is read -/
def SgAt (w : World) (b o : Nat) (s : Sg) : Prop := ∃ a n c, w.cell? ⟨b, o, none⟩ = some (.string s.name) ∧ w.cell? ⟨b, o + 1, none⟩ = some (.int .u32 (s.hash : Int)) ∧ w.cell? ⟨b, o + 2, none⟩ = some (.slice a n c) ∧ n = s.bytes.length ∧ Sl w (.slice a n c) s.bytes
def SigL (w : World) (v : Value) (ss : List Sg) : Prop := ∃ a c, v = .slice a ss.length c ∧ ss.length ≤ c ∧ (ss = [] ∨ ∃ b off, a = some ⟨b, off, none⟩ ∧ b < w.heap.size ∧ ∀ i (h : i < ss.length), SgAt w b (off + i * 3) ss[i])
theorem SgAt.up {w w' : World} {b o : Nat} {s : Sg} (h : SgAt w b o s) (u : Up w w') : SgAt w' b o s := by
  obtain ⟨a, n, c, h1, h2, h3, h4, h5⟩ := h
  exact ⟨a, n, c, u.cell h1, u.cell h2, u.cell h3, h4, h5.up u⟩
theorem SigL.up {w w' : World} {v : Value} {ss : List Sg} (h : SigL w v ss) (u : Up w w') : SigL w' v ss := by
  obtain ⟨a, c, e, hc, h⟩ := h
  refine ⟨a, c, e, hc, ?_⟩
  rcases h with h | ⟨b, off, e2, hb, h⟩
  · exact .inl h
  · exact .inr ⟨b, off, e2, Nat.lt_of_lt_of_le hb u.size, fun i hi => (h i hi).up u⟩
theorem SigL.get {w : World} {v : Value} {ss : List Sg} (h : SigL w v ss) : ∃ a c, v = .slice a ss.length c ∧ ss.length ≤ c ∧ ∀ i (hi : i < ss.length), ∃ b off, a = some ⟨b, off, none⟩ ∧ SgAt w b (off + i * 3) ss[i] := by
  obtain ⟨a, c, e, hc, h⟩ := h
  refine ⟨a, c, e, hc, fun i hi => ?_⟩
  rcases h with rfl | ⟨b, off, e2, hb, h⟩
  · cases hi
  · exact ⟨b, off, e2, h i hi⟩
theorem suf_ten7 (l : List UInt8) : Go.Lib.hasSuffix l [10] = decide (l.getLast? = some 10) := by
  unfold Go.Lib.hasSuffix
  rcases List.eq_nil_or_concat l with rfl | ⟨r, x, rfl⟩
  · rfl
  · by_cases h : x = 10
    · subst h; simp [List.isSuffixOf]
    · have : ¬ (10 : UInt8) = x := fun e => h e.symm
      simp [List.isSuffixOf, h, List.isPrefixOf, this]
open Classical in
set_option maxRecDepth 100000 in
theorem isNoteText_walk (t : ByteArray) (ht : t.size ≤ 140737488355328) (w : World) : Calls Tryz.prog 45 #[.string t] w fun e w' => e = .returned (.bool (decide (okT t))) ∧ Up w w' := by
  go_enter Tryz.func45, Tryz.ntmps45
  go_wp2_with fail
  refine (Any.strings_HasSuffix Tryz.lays100 t ⟨#[10]⟩ w (by omega)).mono ?_
  rintro e w' ⟨rfl, hw⟩
  obtain rfl := hw.symm
  rw [show (⟨#[10]⟩ : ByteArray).data.toList = [10] from rfl, suf_ten7]
  by_cases h : t.data.toList.getLast? = some 10
  · rw [decide_eq_true h]
    dsimp only
    go_wp2_with fail
    refine (Plain_walk t _).mono ?_
    rintro e w' ⟨rfl, u⟩
    by_cases hp : plainR t = 0
    · rw [hp]
      have HU := Hid.of u
      clear u
      dsimp only
      go_wp2
      go_ret
      exact ⟨by simp [okT, h, hp], HU.out⟩
    · have hp' : (plainR t == 0) = false := by simpa using hp
      have HU := Hid.of u
      clear u
      dsimp only
      go_wp2
      go_ret
      exact ⟨by simp [okT, hp], HU.out⟩
  · rw [decide_eq_false h]
    dsimp only
    go_wp2
    go_ret
    exact ⟨by rw [decide_eq_false (fun hk : okT t => h hk.1)]; rfl, Up.refl _⟩
end Go.Proofs.YtaobnnlcfefodaaGreatDoor
