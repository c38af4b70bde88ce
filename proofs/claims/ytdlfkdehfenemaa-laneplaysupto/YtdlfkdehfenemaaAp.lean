import Derived.Test.YtdlfkdehfenemaaAo
namespace Go.Proofs.Ytdlfkdehfenemaa
open Go.RowKit Go.Conc TextNum
def itA : Nat → AN → AN
  | 0, A => A
  | n + 1, A => tickA (itA n A)
theorem itA_now : ∀ (n : Nat) (A : AN), (itA n A).now = A.now + n
  | 0, _ => rfl
  | n + 1, A => by
    show (tickA (itA n A)).now = _
    have h := (arrA_pd ((itA n A).pd.filter fun p => p.1 == (itA n A).now + 1) { itA n A with now := (itA n A).now + 1 }).2.1
    show (arrA { itA n A with now := (itA n A).now + 1 } ((itA n A).pd.filter fun p => p.1 == (itA n A).now + 1)).now = _
    rw [h, itA_now n A]
    show A.now + n + 1 = _
    omega
theorem Stp.low {N N' k : Nat} {w w' : World} {S S' : NS} {A : AN} (h : Stp N' k w w' S S' A) (hn : N ≤ N') : Stp N k w w' S S' A :=
  ⟨h.ok, h.so, h.ab, h.fr, h.no, fun x hx => (h.nr x hx).imp id (fun h => Nat.le_trans hn h), h.nb, h.mn, h.ap⟩
set_option maxRecDepth 100000 in
theorem Pass_no (w : World) (S : NS) (z : Int) (hz : (decide (0 ≤ z) && decide (z ≤ 65536)) = false) : Calls Try.prog 41 #[.pointer (some ⟨S.nb, 0, none⟩), .int .i64 z] w fun e w' => e = .returned (.int .i64 1) ∧ w' = w := by
  have hH := mayPass_walk w z
  rw [hz] at hH
  go_enter Try.func41, Try.ntmps41
  go_wp2_with fail
  refine hH.mono ?_
  rintro e w1 ⟨rfl, rfl⟩
  dsimp only
  go_wp2
  go_ret
  exact ⟨rfl, rfl⟩
set_option maxRecDepth 100000 in
theorem Pass_yes (w : World) (S : NS) (n : Nat) (h : NOk w S) (k : SOk S) (hn : n ≤ 65536) (hnow : S.now ≤ 2305843009213693952) (hbd : S.mn ≤ 1099511627776) :
    Calls Try.prog 41 #[.pointer (some ⟨S.nb, 0, none⟩), .int .i64 (n : Int)] w fun e w' => e = .returned (.int .i64 0) ∧ ∃ S', Stp w.heap.size 0 w w' S S' (itA n (abs S)) ∧ S'.ls.map (·.sh) = S.ls.map (·.sh) := by
  have hH := mayPass_walk w (n : Int)
  rw [show (decide (0 ≤ (n : Int)) && decide ((n : Int) ≤ 65536)) = true by simp; omega] at hH
  have HN := Hid.of h
  have HK := Hid.of k
  clear h k
  go_enter Try.func41, Try.ntmps41
  go_wp2_with fail
  refine hH.mono ?_
  rintro e w1 ⟨rfl, rfl⟩
  clear hH
  dsimp only
  go_wp2
  go_loopw [9] (fun v9 wr => ∃ j : Nat, v9 = .int .i64 (j : Int) ∧ j ≤ n ∧ Hid (∃ Sj, Stp w1.heap.size 0 w1 wr S Sj (itA j (abs S)) ∧ Sj.ls.map (·.sh) = S.ls.map (·.sh))) (fun v9 _ => n - (intOf v9).toNat)
  case atStart => exact ⟨0, rfl, by omega, Hid.of ⟨S, Stp.refl HN.out HK.out, rfl⟩⟩
  case round =>
    obtain ⟨j, rfl, hj, hR⟩ := hrel
    by_cases hlt : j < n
    · have hltz : (j : Int) < (n : Int) := by omega
      obtain ⟨Sj, hS, hsh⟩ := hR.out
      have hnj : Sj.now = S.now + j := by
        have := congrArg AN.now hS.ab
        rw [itA_now] at this
        exact this
      have hT := tick_walk wr Sj hS.ok hS.so (by omega) (by have := hS.mn; omega)
      rw [hS.nb] at hT
      have HS := Hid.of hS
      have HSH := Hid.of hsh
      have hjw : IntKind.i64.wrap ((j : Int) + 1) = (j : Int) + 1 := by rw [IntKind.wrap_i64]; omega
      clear hR hS hsh hnj
      go_wp2_with fail
      refine hT.mono ?_
      rintro e w2 ⟨rfl, S2, h2, h3⟩
      have HR2 := Hid.of (show ∃ Sj, Stp w1.heap.size 0 w1 w2 S Sj (itA (j + 1) (abs S)) ∧ Sj.ls.map (·.sh) = S.ls.map (·.sh) from ⟨S2, by
        have h4 := HS.out.trans (h2.low HS.out.fr.size)
        rw [HS.out.ab] at h4
        exact h4, h3.trans HSH.out⟩)
      clear h2 h3 hT HS HSH
      dsimp only
      go_wp2
      go_roundw
      case rel => exact ⟨j + 1, by simp, by omega, HR2⟩
      case measure => simp [intOf]; omega
    · have hltz : ¬ ((j : Int) < (n : Int)) := by omega
      obtain rfl : j = n := by omega
      go_wp2
      go_ret
      exact ⟨rfl, hR.out⟩
end Go.Proofs.Ytdlfkdehfenemaa
