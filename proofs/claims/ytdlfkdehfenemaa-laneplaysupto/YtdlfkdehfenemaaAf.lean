import Derived.Test.YtdlfkdehfenemaaAe
namespace Go.Proofs.Ytdlfkdehfenemaa
open Go.RowKit Go.Conc TextNum
set_option maxRecDepth 100000 in
theorem shut_walk (w : World) (S : NS) (i : Nat) (l : LC) (h : NOk w S) (hl : S.ls[i]? = some l) (ho : l.sh = false) :
    Calls Try.prog 40 #[.pointer (some ⟨S.pb, i * 3, none⟩)] w fun e w' => e = .returned (.tuple #[]) ∧ NOk w' (wLs S i { l with sh := true }) ∧ Fr (fun k => k = S.pb ∨ k = l.c) w w' := by
  have hx := h.chs l (get_mem hl)
  have hr1 := h.row
  have hne := at_notchan hr1 hx
  have c2 := hr1.cell (lcell1 hl)
  have t2 := hr1.thaw (i * 3 + 1)
  have HN := Hid.of h
  have HX := Hid.of hx
  clear h hx
  go_enter Try.func40, Try.ntmps40
  go_wp2_with fail
  have hA2 := hr1.set (i * 3 + 1) (.bool true)
  have hG2 := grown_at w S.pb (i * 3 + 1) (.bool true)
  rw [lcs_set (l' := { l with sh := true }) (k := 1) hl (by omega) rfl] at hA2
  have hN2 := HN.out.count hl true l.la hG2 hA2
  have hF2 := (Fr.refl (fun k => k = S.pb ∨ k = l.c) w).by hG2 (fun g hg => .inl (.inl (Option.some.inj hg).symm))
  have hl2 : (S.ls.set i { l with sh := true })[i]? = some { l with sh := true } := set_get hl
  have hx3 : (w.setCell ⟨S.pb, i * 3 + 1, none⟩ (.bool true)).heap[l.c]? = some (.chan 64 (l.ms.map (·.v)).toArray false l.s l.r false) := by
    rw [hG2.block _ (lt_of_at HX.out) (fun e => hne (Option.some.inj e).symm), HX.out, chn, ho]; rfl
  have e0 := lcs_get (k := 0) hl2 (by omega)
  have e1 := lcs_get (k := 1) hl2 (by omega)
  have e2 := lcs_get (k := 2) hl2 (by omega)
  generalize w.setCell ⟨S.pb, i * 3 + 1, none⟩ (.bool true) = W2 at *
  refine (endChannel_walk W2 S.pb (i * 3) l.la l.c l.s l.r true _ _ hA2 e0 e1 e2 hx3).mono ?_
  rintro e w4 ⟨rfl, rfl⟩
  dsimp only
  go_wp2
  go_end0
  exact ⟨rfl, hN2, hF2.by (grown_chan ..) (fun g hg => .inl (.inr (Option.some.inj hg).symm))⟩
/-- a lane there is -/
def isL (S : NS) (z : Int) : Bool := decide (0 ≤ z) && decide (z < (S.ls.length : Int))
set_option maxRecDepth 100000 in
theorem has_walk (w : World) (S : NS) (z : Int) (h : NOk w S) : Calls Try.prog 34 #[.pointer (some ⟨S.nb, 0, none⟩), .int .i64 z] w fun e w' => e = .returned (.bool (isL S z)) ∧ w' = w := by
  have c0 := h.net.cell (i := 0) rfl
  clear h
  by_cases h0 : 0 ≤ z
  · go_enter Try.func34, Try.ntmps34
    go_wp2
    go_ret
    refine ⟨?_, rfl⟩
    simp [isL, h0]
  · go_enter Try.func34, Try.ntmps34
    go_wp2
    go_ret
    refine ⟨?_, rfl⟩
    simp [isL]
    omega
set_option maxRecDepth 100000 in
theorem mayPass_walk (w : World) (z : Int) : Calls Try.prog 37 #[.int .i64 z] w fun e w' => e = .returned (.bool (decide (0 ≤ z) && decide (z ≤ 65536))) ∧ w' = w := by
  by_cases h0 : 0 ≤ z
  · go_enter Try.func37, Try.ntmps37
    go_wp2
    go_ret
    refine ⟨?_, rfl⟩
    simp [h0]
  · go_enter Try.func37, Try.ntmps37
    go_wp2
    go_ret
    refine ⟨?_, rfl⟩
    simp
    omega
set_option maxRecDepth 100000 in
theorem Now_walk (w : World) (S : NS) (h : NOk w S) : Calls Try.prog 16 #[.pointer (some ⟨S.nb, 0, none⟩)] w fun e w' => e = .returned (.int .i64 (S.now : Int)) ∧ w' = w := by
  have c0 := h.net.cell (i := 2) rfl
  clear h
  go_enter Try.func16, Try.ntmps16
  go_wp2
  go_ret
  exact ⟨rfl, rfl⟩
set_option maxRecDepth 100000 in
theorem num_walk (w : World) (z : Int) : Calls Try.prog 13 #[.int .i64 z] w fun e w' => e = .returned (.int .i64 z) ∧ w' = w := by
  go_enter Try.func13, Try.ntmps13
  go_wp2
  go_ret
  exact ⟨rfl, rfl⟩
set_option maxRecDepth 100000 in
theorem Waiting_yes (w : World) (S : NS) (i : Nat) (l : LC) (h : NOk w S) (hl : S.ls[i]? = some l) : Calls Try.prog 15 #[.pointer (some ⟨S.nb, 0, none⟩), .int .i64 (i : Int)] w fun e w' => e = .returned (.tuple #[.int .i64 (l.ms.length : Int), .int .i64 0]) ∧ w' = w := by
  have hi := (List.getElem?_eq_some_iff.1 hl).1
  have c0 := h.net.cell (i := 0) rfl
  have c1 := h.row.cell (lcell0 hl)
  have hs : isL S (i : Int) = true := by simp [isL]; omega
  have hH := has_walk w S (i : Int) h
  rw [hs] at hH
  have HX := Hid.of (h.chs l (get_mem hl))
  have hlen := fun ty => run_len_chan (P := Try.prog) 85 ty Try.underlying85 (HX.out)
  clear h
  go_enter Try.func15, Try.ntmps15
  go_wp2_with fail
  refine hH.mono ?_
  rintro e w1 ⟨rfl, rfl⟩
  dsimp only
  go_wp2
  go_ret2
  exact ⟨rfl, rfl⟩
set_option maxRecDepth 100000 in
theorem Waiting_no (w : World) (S : NS) (z : Int) (h : NOk w S) (hz : isL S z = false) : Calls Try.prog 15 #[.pointer (some ⟨S.nb, 0, none⟩), .int .i64 z] w fun e w' => e = .returned (.tuple #[.int .i64 0, .int .i64 192]) ∧ w' = w := by
  have hH := has_walk w S z h
  rw [hz] at hH
  clear h
  go_enter Try.func15, Try.ntmps15
  go_wp2_with fail
  refine hH.mono ?_
  rintro e w1 ⟨rfl, rfl⟩
  dsimp only
  go_wp2
  go_ret2
  exact ⟨rfl, rfl⟩
theorem isL_nat {S : NS} {i : Nat} {l : LC} (hl : S.ls[i]? = some l) : isL S (i : Int) = true := by
  have hi := (List.getElem?_eq_some_iff.1 hl).1
  simp [isL]; omega
set_option maxRecDepth 100000 in
theorem Close_no (w : World) (S : NS) (z : Int) (h : NOk w S) (hz : isL S z = false) : Calls Try.prog 23 #[.pointer (some ⟨S.nb, 0, none⟩), .int .i64 z] w fun e w' => e = .returned (.int .i64 192) ∧ w' = w := by
  have hH := has_walk w S z h
  rw [hz] at hH
  clear h
  go_enter Try.func23, Try.ntmps23
  go_wp2_with fail
  refine hH.mono ?_
  rintro e w1 ⟨rfl, rfl⟩
  dsimp only
  go_wp2
  go_ret
  exact ⟨rfl, rfl⟩
set_option maxRecDepth 100000 in
theorem Close_shut (w : World) (S : NS) (i : Nat) (l : LC) (h : NOk w S) (hl : S.ls[i]? = some l) (hs : l.sh = true) : Calls Try.prog 23 #[.pointer (some ⟨S.nb, 0, none⟩), .int .i64 (i : Int)] w fun e w' => e = .returned (.int .i64 191) ∧ w' = w := by
  have hH := has_walk w S (i : Int) h
  rw [isL_nat hl] at hH
  have hi := (List.getElem?_eq_some_iff.1 hl).1
  have c0 := h.net.cell (i := 0) rfl
  have c1 := h.row.cell (lcell1 hl)
  rw [hs] at c1
  clear h
  go_enter Try.func23, Try.ntmps23
  go_wp2_with fail
  refine hH.mono ?_
  rintro e w1 ⟨rfl, rfl⟩
  dsimp only
  go_wp2
  go_ret
  exact ⟨rfl, rfl⟩
set_option maxRecDepth 100000 in
theorem Close_yes (w : World) (S : NS) (i : Nat) (l : LC) (h : NOk w S) (hl : S.ls[i]? = some l) (hs : l.sh = false) : Calls Try.prog 23 #[.pointer (some ⟨S.nb, 0, none⟩), .int .i64 (i : Int)] w fun e w' => e = .returned (.int .i64 0) ∧ NOk w' (wLs S i { l with sh := true }) ∧ Fr (own S) w w' := by
  have hH := has_walk w S (i : Int) h
  rw [isL_nat hl] at hH
  have hi := (List.getElem?_eq_some_iff.1 hl).1
  have c0 := h.net.cell (i := 0) rfl
  have c1 := h.row.cell (lcell1 hl)
  have HS := Hid.of (shut_walk w S i l h hl hs)
  rw [hs] at c1
  clear h
  go_enter Try.func23, Try.ntmps23
  go_wp2_with fail
  refine hH.mono ?_
  rintro e w1 ⟨rfl, rfl⟩
  dsimp only
  go_wp2_with fail
  refine HS.out.mono ?_
  rintro e w2 ⟨rfl, h2, f2⟩
  dsimp only
  go_wp2
  go_ret
  exact ⟨rfl, h2, fr_own hl f2⟩
end Go.Proofs.Ytdlfkdehfenemaa
