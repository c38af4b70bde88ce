import Derived.Test.YtdlfkdehfenemaaAr
namespace Go.Proofs.Ytdlfkdehfenemaa
open Go.RowKit Go.Conc TextNum
set_option maxRecDepth 100000 in
theorem Wait_no (w : World) (S : NS) (z t : Int) (h : NOk w S) (hz : isL S z = false) : Calls Try.prog 19 #[.pointer (some ⟨S.nb, 0, none⟩), .int .i64 z, .int .i64 t] w fun e w' => e = .returned (.tuple #[nilS, .int .i64 192]) ∧ w' = w := by
  have hH := has_walk w S z h
  rw [hz] at hH
  clear h
  go_enter Try.func19, Try.ntmps19
  go_wp2_with fail
  refine hH.mono ?_
  rintro e w1 ⟨rfl, rfl⟩
  dsimp only
  go_wp2
  go_ret2
  exact ⟨rfl, rfl⟩
set_option maxRecDepth 100000 in
theorem Wait_arg (w : World) (S : NS) (i : Nat) (l : LC) (t : Int) (h : NOk w S) (hl : S.ls[i]? = some l) (ht : (decide (0 ≤ t) && decide (t ≤ 65536)) = false) : Calls Try.prog 19 #[.pointer (some ⟨S.nb, 0, none⟩), .int .i64 (i : Int), .int .i64 t] w fun e w' => e = .returned (.tuple #[nilS, .int .i64 1]) ∧ w' = w := by
  have hH := has_walk w S (i : Int) h
  rw [isL_nat hl] at hH
  have hM := mayPass_walk w t
  rw [ht] at hM
  clear h ht
  go_enter Try.func19, Try.ntmps19
  go_wp2_with fail
  refine hH.mono ?_
  rintro e w1 ⟨rfl, rfl⟩
  dsimp only
  go_wp2_with fail
  refine hM.mono ?_
  rintro e w1 ⟨rfl, rfl⟩
  dsimp only
  go_wp2
  go_ret2
  exact ⟨rfl, rfl⟩
set_option maxRecDepth 100000 in
theorem Wait_yes (w : World) (S : NS) (i n : Nat) (l : LC) (h : NOk w S) (k : SOk S) (hl : S.ls[i]? = some l) (hn : n ≤ 65536) (hnow : S.now ≤ 2305843009213693952) (hbd : S.mn ≤ 1099511627776) :
    Calls Try.prog 19 #[.pointer (some ⟨S.nb, 0, none⟩), .int .i64 (i : Int), .int .i64 (n : Int)] w fun e w' => ∃ mv, e = .returned (.tuple #[mv, .int .i64 (awA n (abs S) [i]).1.2.2]) ∧ Ow w' 0 mv (awA n (abs S) [i]).1.2.1 ∧ ∃ S', Stp w.heap.size 0 w w' S S' (awA n (abs S) [i]).2 ∧ S'.ls.map (·.sh) = S.ls.map (·.sh) ∧ Free w S S' mv := by
  have hH := has_walk w S (i : Int) h
  rw [isL_nat hl] at hH
  have hi := (List.getElem?_eq_some_iff.1 hl).1
  have hM := mayPass_walk w (n : Int)
  rw [show (decide (0 ≤ (n : Int)) && decide ((n : Int) ≤ 65536)) = true by simp; omega] at hM
  have HU := Hid.of ((Up.refl w).alloc (.cells #[.int .i64 (i : Int)] 3))
  have HA := Hid.of (at_new w 3 [.int .i64 (i : Int)])
  have HN := Hid.of h
  have HK := Hid.of k
  have HSz := Hid.of (alloc_size w (.cells #[.int .i64 (i : Int)] 3))
  clear h k
  generalize hR : awA n (abs S) [i] = R
  have HRR := Hid.of (And.intro hR trivial)
  clear hR
  go_enter Try.func19, Try.ntmps19
  go_wp2_with fail
  refine hH.mono ?_
  rintro e w1 ⟨rfl, rfl⟩
  clear hH
  dsimp only
  go_wp2_with fail
  refine hM.mono ?_
  rintro e w1 ⟨rfl, rfl⟩
  clear hM
  dsimp only
  go_wp2_with fail
  generalize w1.alloc (.cells #[.int .i64 (i : Int)] 3) = W1 at *
  have hLn : Lns W1 S (.slice (some ⟨w1.heap.size, 0, none⟩) 1 1) [i] := by
    refine ⟨⟨w1.heap.size, 0, 1, rfl, by simp, fun j x hj => ?_⟩, by simp, fun x hx => ?_, by simp⟩
    · cases j with
      | zero =>
        obtain rfl : i = x := by simpa using hj
        exact HA.out.cell (i := 0) rfl
      | succ j => simp at hj
    · obtain rfl := List.mem_singleton.1 hx
      exact hi
  refine (await_walk W1 S _ [i] n (HN.out.up HU.out) HK.out hLn (fun g hg => ?_) hn hnow hbd).mono ?_
  · obtain rfl : w1.heap.size = g := Option.some.inj hg
    exact ⟨fun e => Nat.lt_irrefl _ (HN.out.lt e), by have := HSz.out; omega⟩
  rw [HRR.out.1]
  rintro e w2 ⟨mv, S', rfl, ho, hs, hsh, hfe⟩
  have HO := Hid.of ho
  have HS := Hid.of hs
  have HSH := Hid.of hsh
  have HFE := Hid.of (show Free w1 S S' mv from fun x hx => ⟨(hfe x hx).1.imp id (Nat.le_trans HU.out.size), (hfe x hx).2⟩)
  clear ho hs hsh hfe
  dsimp only
  go_wp2
  go_ret2
  exact ⟨mv, rfl, HO.out, S', (HS.out.base HU.out).low (by have := HU.out.size; omega), HSH.out, HFE.out⟩
end Go.Proofs.Ytdlfkdehfenemaa
