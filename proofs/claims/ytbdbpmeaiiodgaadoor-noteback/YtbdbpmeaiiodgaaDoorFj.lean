import Derived.Test.YtbdbpmeaiiodgaaDoorFi
namespace Go.Proofs.YtbdbpmeaiiodgaaDoor
open Go.RowKit TextNum
set_option maxRecDepth 100000 in
theorem num7 (n : Int) (w : World) : Calls Tryd.prog 20 #[.int .i64 n] w fun e w' => e = .returned (.int .i64 n) ∧ w' = w := by
  go_enter Tryd.func20, Tryd.ntmps20
  go_wp2
  go_ret
  exact ⟨rfl, rfl⟩
theorem last_get (s : ByteArray) (h : 0 < s.size) : s.data.toList.getLast? = some 10 ↔ ((s[s.size - 1]'(by omega)).toNat : Int) = 10 := by
  rw [sget', List.getLast?_eq_getElem?]
  have e : s.size = s.data.toList.length := Go.Lib.size_eq s
  have hl : s.data.toList.length - 1 < s.data.toList.length := by omega
  rw [List.getElem?_eq_getElem hl, Option.some.injEq]
  have e2 : s.data.toList[s.size - 1]'(by omega) = s.data.toList[s.data.toList.length - 1] := rfl
  rw [e2]
  constructor
  · intro h; rw [h]; rfl
  · intro h; apply UInt8.toNat_inj.1; have : (10 : UInt8).toNat = 10 := rfl; omega
def TX : ByteArray := ⟨#[116, 101, 120, 116, 10]⟩
theorem plain_TX : plainR TX = 0 := by decide +kernel
def PTX (s t : ByteArray) : Prop := (s.size ≤ 4000 ∧ okT s ∧ t = s) ∨ (¬ (s.size ≤ 4000 ∧ okT s) ∧ t = TX)
theorem ptx_ex (s : ByteArray) : ∃ t, PTX s t := by
  by_cases h : s.size ≤ 4000 ∧ okT s
  · exact ⟨s, .inl ⟨h.1, h.2, rfl⟩⟩
  · exact ⟨TX, .inr ⟨h, rfl⟩⟩
theorem ptx_ok {s t : ByteArray} (h : PTX s t) : okT t ∧ t.size ≤ 4000 := by
  rcases h with ⟨h1, h2, rfl⟩ | ⟨_, rfl⟩
  · exact ⟨h2, h1⟩
  · exact ⟨⟨rfl, plain_TX⟩, by decide⟩
theorem ptx_no {s t : ByteArray} (h : PTX s t) (hn : ¬ (s.size ≤ 4000 ∧ okT s)) : TX = t := by
  rcases h with ⟨h1, h2, _⟩ | ⟨_, rfl⟩
  · exact absurd ⟨h1, h2⟩ hn
  · rfl
theorem ptx_yes {s t : ByteArray} (h : PTX s t) (hy : s.size ≤ 4000 ∧ okT s) : s = t := by
  rcases h with ⟨_, _, rfl⟩ | ⟨h, _⟩
  · rfl
  · exact absurd hy h
set_option maxRecDepth 100000 in
set_option maxHeartbeats 1000000 in
theorem plainText_walk (s t : ByteArray) (hs : s.size ≤ 140737488355328) (ht : PTX s t) (w : World) : Calls Tryd.prog 24 #[.string s] w fun e w' => e = .returned (.string t) ∧ Up w w' := by
  have HT := Hid.of ht
  clear ht
  go_enter Tryd.func24, Tryd.ntmps24
  by_cases h4 : 4000 < s.size
  · have h4' : (4000 : Int) < (s.size : Int) := by omega
    go_wp2
    go_ret
    exact ⟨by rw [← ptx_no HT.out (by omega)]; rfl, Up.refl _⟩
  have h4' : ¬ (4000 : Int) < (s.size : Int) := by omega
  by_cases h0 : s.size = 0
  · obtain rfl := szero h0
    go_wp2
    go_ret
    exact ⟨by rw [← ptx_no HT.out (fun h => by have := h.2.1; cases this)]; rfl, Up.refl _⟩
  have h0' := eno h0
  have hw : IntKind.i64.wrap ((s.size : Int) - 1) = ((s.size - 1 : Nat) : Int) := by
    simp only [IntKind.wrap, IntKind.signed, IntKind.bits]; simp; omega
  have HL := Hid.of (last_get s (by omega))
  by_cases hx : ((s[s.size - 1]'(by omega)).toNat : Int) = 10
  rotate_left
  · have HX := Hid.of (show ¬ okT s from fun h => hx (HL.out.1 h.1))
    go_wp2
    go_ret
    exact ⟨by rw [← ptx_no HT.out (fun h => HX.out h.2)]; rfl, Up.refl _⟩
  have HX := Hid.of (HL.out.2 hx)
  go_wp2_with fail
  refine (Plain_walk s w).mono ?_
  rintro e w1 ⟨rfl, u1⟩
  have H1 := Hid.of u1
  clear u1
  have HP := Hid.of (show plainR s = plainR s from rfl)
  generalize hp : plainR s = p at HP ⊢
  clear HP
  have HP := Hid.of hp
  clear hp
  dsimp only
  go_wp2_with fail
  refine (num7 p w1).mono ?_
  rintro e w2 ⟨rfl, hw2⟩
  obtain rfl := hw2.symm
  dsimp only
  by_cases h : p = 0
  · subst h
    go_wp2
    go_ret
    exact ⟨by rw [← ptx_yes HT.out ⟨by omega, HX.out, HP.out⟩]; rfl, H1.out⟩
  · have h' : (p == 0) = false := by simpa using h
    go_wp2
    go_ret
    exact ⟨by rw [← ptx_no HT.out (fun hk => h (by rw [← HP.out]; exact hk.2.2))]; rfl, H1.out⟩
end Go.Proofs.YtbdbpmeaiiodgaaDoor
