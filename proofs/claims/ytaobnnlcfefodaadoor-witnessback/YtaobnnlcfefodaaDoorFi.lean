import Derived.Test.YtaobnnlcfefodaaDoorFh
import Derived.Test.YtaobnnlcfefodaaDoorFm
namespace Go.Proofs.YtaobnnlcfefodaaDoor
open Go.RowKit TextNum
/-- what Split answers -/
def SA (m : List UInt8) (w : World) (e : Ending) (w' : World) : Prop := ∃ t v ss er, e = .returned (.tuple #[.string t, v, .int .i64 er]) ∧ SR m t ss er ∧ SigL w' v ss ∧ Up w w'
def SA2 (m : List UInt8) (w : World) (e : Ending) (w' : World) : Prop := ∃ t v qs er, e = .returned (.tuple #[.string t, v, .int .i64 er]) ∧ SR m t (qs.map (·.1)) er ∧ OwnL w' w.heap.size v qs ∧ Up w w' ∧ (er ≠ 0 → t = ⟨#[]⟩ ∧ v = .slice none 0 0 ∧ qs = [])
theorem SA2.sa {m : List UInt8} {w : World} {e : Ending} {w' : World} (h : SA2 m w e w') : SA m w e w' := by
  obtain ⟨t, v, qs, er, h1, h2, h3, h4, _⟩ := h
  exact ⟨t, v, qs.map (·.1), er, h1, h2, h3.1.sigL, h4⟩
theorem sigL_nil (w : World) : SigL w (.slice none 0 0) [] := ⟨none, 0, rfl, Nat.le_refl _, .inl rfl⟩
open Classical in
set_option maxRecDepth 100000 in
set_option maxHeartbeats 2000000 in
theorem Split_walk2 (v : Value) (m : List UInt8) (w : World) (hS : Sl w v m) (hT : TabL w) (hW : Go.Lib.WhiteTab 5 w) :
    Calls Tryd.prog 15 #[v] w (SA2 m w) := by
  have HT := Hid.of hT
  have HW := Hid.of hW
  have HC := Hid.of (conv_sl hS)
  clear hT hW
  obtain ⟨a, c, rfl, hc, hS⟩ := hS
  obtain ⟨n, hn⟩ : ∃ n, m.length = n := ⟨_, rfl⟩
  rw [hn] at hc HC ⊢
  clear hS
  go_enter Tryd.func15, Tryd.ntmps15
  by_cases hL : 65536 < n
  · have hL' : (65536 : Int) < (n : Int) := by omega
    go_wp2
    go_ret3
    exact ⟨_, _, [], _, rfl, .inl ⟨rfl, by omega⟩, ownL_nil _ _, Up.refl _, fun _ => ⟨rfl, rfl, rfl⟩⟩
  have hL' : ¬ (65536 : Int) < (n : Int) := by omega
  have hcv := HC.out
  rw [show vs m = .string ⟨m.toArray⟩ from rfl] at hcv
  go_wp2_with fail
  refine (Cut_walk ⟨m.toArray⟩ w).mono ?_
  rintro e w1 ⟨r, rfl, hr, u1⟩
  have HSz := Hid.of (show (⟨m.toArray⟩ : ByteArray).size = n by rw [Go.Lib.size_eq]; exact hn)
  rcases hr with ⟨rfl, hno⟩ | ⟨i, rfl, _, hi, hb, hlast⟩
  · have HN := Hid.of (show (¬ ∃ t ss, Spl m t ss) ∧ Up w w1 from ⟨fun ⟨t, ss, j, hj, _⟩ => by
      rcases hno with h | h
      · have := HSz.out; omega
      · exact h j hj, u1⟩)
    clear hno u1
    dsimp only
    go_wp2
    go_ret3
    exact ⟨_, _, [], _, rfl, .inr (.inl ⟨rfl, by omega, HN.out.1⟩), ownL_nil _ _, HN.out.2, fun _ => ⟨rfl, rfl, rfl⟩⟩
  have e1 : (⟨m.toArray⟩ : ByteArray).extract 0 (i + 1) = ⟨(m.take (i + 1)).toArray⟩ := by
    refine ba_list7 ?_
    simp [ByteArray.data_extract]
  have e2 : (⟨m.toArray⟩ : ByteArray).extract (i + 2) (⟨m.toArray⟩ : ByteArray).size = ⟨(m.drop (i + 2)).toArray⟩ := by
    refine ba_list7 ?_
    rw [HSz.out]
    simp only [ByteArray.data_extract, List.extract_toArray, ← hn]
    rw [List.extract_eq_take_drop, List.take_of_length_le (by rw [List.length_drop]; omega)]
  rw [e1, e2]
  rw [HSz.out] at hi
  rw [show (⟨m.toArray⟩ : ByteArray).data.toList = m from rfl] at hb hlast
  clear e1 e2
  have HB := Hid.of (show (∀ t ss, Spl m t ss ↔ t.data.toList = m.take (i + 1) ∧ okT t ∧ Tl (m.drop (i + 2)) ss) ∧ Up w w1 from ⟨fun t ss => ⟨fun ⟨j, hj, hl, r⟩ => by
      obtain rfl : i = j := by
        rcases Nat.lt_trichotomy i j with h | h | h
        · exact absurd hj (hlast _ h)
        · exact h
        · exact absurd hb (hl _ h)
      exact r, fun r => ⟨i, hb, hlast, r⟩⟩, u1⟩)
  clear hb hlast u1
  obtain ⟨t, HTT⟩ : ∃ t, Hid ((⟨(m.take (i + 1)).toArray⟩ : ByteArray) = t ∧ t.data.toList = m.take (i + 1)) := ⟨_, Hid.of ⟨rfl, rfl⟩⟩
  rw [HTT.out.1]
  dsimp only
  go_wp2_with fail
  refine (isNoteText_walk t (by rw [Go.Lib.size_eq, HTT.out.2, List.length_take]; omega) w1).mono ?_
  rintro e w2 ⟨rfl, u2⟩
  have H2 := Hid.of (HB.out.2.trans u2)
  clear u2
  by_cases hk : okT t
  rotate_left
  · rw [decide_eq_false hk]
    have HN := Hid.of (show ¬ ∃ t ss, Spl m t ss from fun ⟨t', ss, h⟩ => by
      have h3 := (HB.out.1 t' ss).1 h
      obtain rfl : t' = t := ba_list7 (h3.1.trans HTT.out.2.symm)
      exact hk h3.2.1)
    clear hk
    dsimp only
    go_wp2
    go_ret3
    exact ⟨_, _, [], _, rfl, .inr (.inl ⟨rfl, by omega, HN.out⟩), ownL_nil _ _, H2.out, fun _ => ⟨rfl, rfl, rfl⟩⟩
  rw [decide_eq_true hk]
  have HK := Hid.of hk
  clear hk
  obtain ⟨tl, HTL⟩ : ∃ tl, Hid ((⟨(m.drop (i + 2)).toArray⟩ : ByteArray) = tl ∧ tl.data.toList = m.drop (i + 2)) := ⟨_, Hid.of ⟨rfl, rfl⟩⟩
  rw [HTL.out.1]
  dsimp only
  go_wp2_with fail
  refine (readSigLines_walk tl w2 (HT.out.up H2.out) (WhiteTab_up HW.out H2.out)).mono ?_
  rintro e w3 hA
  rw [HTL.out.2] at hA
  rcases hA with ⟨rfl, hno, u3⟩ | ⟨v3, qs, rfl, htl, hsl, u3⟩
  · have HN := Hid.of (show (¬ ∃ t ss, Spl m t ss) ∧ Up w w3 from ⟨fun ⟨t', ss, h⟩ => hno ⟨ss, ((HB.out.1 t' ss).1 h).2.2⟩, H2.out.trans u3⟩)
    clear hno u3
    dsimp only
    go_wp2
    go_ret3
    exact ⟨_, _, [], _, rfl, .inr (.inl ⟨rfl, by omega, HN.out.1⟩), ownL_nil _ _, HN.out.2, fun _ => ⟨rfl, rfl, rfl⟩⟩
  · have HN := Hid.of (show Spl m t (qs.map (·.1)) ∧ OwnL w3 w.heap.size v3 qs ∧ Up w w3 from ⟨(HB.out.1 t _).2 ⟨HTT.out.2, HK.out, htl⟩, hsl.base H2.out.size, H2.out.trans u3⟩)
    clear htl hsl u3
    dsimp only
    go_wp2
    go_ret3
    exact ⟨_, _, qs, _, rfl, .inr (.inr ⟨rfl, by omega, HN.out.1⟩), by exact HN.out.2.1, HN.out.2.2, fun h => absurd rfl h⟩
theorem Split_walk (v : Value) (m : List UInt8) (w : World) (hS : Sl w v m) (hT : TabL w) (hW : Go.Lib.WhiteTab 5 w) :
    Calls Tryd.prog 15 #[v] w (SA m w) := (Split_walk2 v m w hS hT hW).mono fun _ _ h => h.sa
end Go.Proofs.YtaobnnlcfefodaaDoor
