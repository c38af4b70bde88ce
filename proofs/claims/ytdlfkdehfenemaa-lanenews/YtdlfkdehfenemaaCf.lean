import Derived.Test.YtdlfkdehfenemaaCe
namespace Go.Proofs.Ytdlfkdehfenemaa
open Go.RowKit Go.Conc TextNum
/-- two lanes -/
def CA (now : Nat) (fs : List (Int × Int)) (x : List (List UInt8)) (s : Bool) (y : List (List UInt8)) (r : Bool) (pd : List (Nat × Nat × List UInt8)) : AN := ⟨now, fs, [(x, s), (y, r)], pd⟩
theorem CA_delay {now : Nat} {fs : List (Int × Int)} {x y : List (List UInt8)} {s r : Bool} {pd : List (Nat × Nat × List UInt8)} (d : Nat) (m : List UInt8) (hd : 0 < d) :
    SendA (CA now ((3, (d : Int)) :: fs) x s y r pd) 0 m = CA now fs x s y r (pd ++ [(now + d, 0, m)]) := by
  have h : ¬ d = 0 := by omega
  unfold SendA nextA sendA postA CA
  simp [h]
theorem CA_here {now : Nat} {fs : List (Int × Int)} {x y : List (List UInt8)} {s r : Bool} {pd : List (Nat × Nat × List UInt8)} (z : Int) (m : List UInt8) (hx : x.length < 64) :
    SendA (CA now ((0, z) :: fs) x s y r pd) 0 m = CA now fs (x ++ [m]) s y r pd := by
  unfold SendA nextA sendA postA putA CA comeA
  simp [List.modify, hx]
theorem CA_one {now : Nat} {x y : List (List UInt8)} {s r : Bool} {pd : List (Nat × Nat × List UInt8)} (m : List UInt8) (hy : y.length < 64) :
    SendA (CA now [] x s y r pd) 1 m = CA now [] x s (y ++ [m]) r pd := by
  unfold SendA nextA sendA postA putA CA comeA
  simp [List.modify, hy]
theorem CA_wait0 {now : Nat} {fs : List (Int × Int)} {x y : List (List UInt8)} {s r : Bool} {pd : List (Nat × Nat × List UInt8)} (m : List UInt8) (n : Nat) : awA n (CA now fs (m :: x) s y r pd) [0] = ((0, m, 0), CA now fs x s y r pd) := by
  rw [awA_some (i := 0) (by simp [hasA, CA])]
  simp [firstA, popA, CA, List.modify]
theorem CA_wait1 {now : Nat} {fs : List (Int × Int)} {x y : List (List UInt8)} {s r : Bool} {pd : List (Nat × Nat × List UInt8)} (m : List UInt8) (n : Nat) : awA n (CA now fs x s (m :: y) r pd) [1] = ((1, m, 0), CA now fs x s y r pd) := by
  rw [awA_some (i := 1) (by simp [hasA, CA])]
  simp [firstA, popA, CA, List.modify]
theorem CA_end {now : Nat} {fs : List (Int × Int)} {y : List (List UInt8)} {r : Bool} (n : Nat) : awA n (CA now fs [] true y r []) [0] = ((0, [], 191), CA now fs [] true y r []) := by
  rw [awA_end (by simp [hasA, CA]) (by simp [endA, CA])]
theorem CA_tick {now : Nat} {fs : List (Int × Int)} {x y : List (List UInt8)} {s r : Bool} {t : Nat} {m : List UInt8} (h : t ≠ now + 1) : tickA (CA now fs x s y r [(t, 0, m)]) = CA (now + 1) fs x s y r [(t, 0, m)] := by
  unfold tickA CA
  simp [h, arrA]
theorem CA_due {now : Nat} {fs : List (Int × Int)} {y : List (List UInt8)} {s r : Bool} {m : List UInt8} : tickA (CA now fs [] s y r [(now + 1, 0, m)]) = CA (now + 1) fs [m] s y r [] := by
  unfold tickA CA
  simp [arrA, putA, comeA, List.modify]
theorem CA_tick0 {now : Nat} {fs : List (Int × Int)} {x y : List (List UInt8)} {s r : Bool} : tickA (CA now fs x s y r []) = CA (now + 1) fs x s y r [] := by
  unfold tickA CA
  simp [arrA]
theorem CA_idle {fs : List (Int × Int)} {y : List (List UInt8)} {s r : Bool} {t : Nat} {m : List UInt8} : ∀ (k now : Nat), now + k < t → awA k (CA now fs [] s y r [(t, 0, m)]) [0] = ((0, [], 190), CA (now + k) fs [] s y r [(t, 0, m)])
  | 0, now, h => by
    rw [awA_out (by simp [hasA, CA]) (by simp [endA, CA])]
    rfl
  | k + 1, now, h => by
    rw [awA_tick (by simp [hasA, CA]) (by simp [endA, CA]), CA_tick (by omega), CA_idle k (now + 1) (by omega), show now + 1 + k = now + (k + 1) by omega]
theorem CA_comes {fs : List (Int × Int)} {y : List (List UInt8)} {s r : Bool} {m : List UInt8} : ∀ (k j now : Nat), awA (k + 1 + j) (CA now fs [] s y r [(now + k + 1, 0, m)]) [0] = ((0, m, 0), CA (now + k + 1) fs [] s y r [])
  | 0, j, now => by
    rw [show 0 + 1 + j = j + 1 by omega, awA_tick (by simp [hasA, CA]) (by simp [endA, CA]), show now + 0 + 1 = now + 1 by omega, CA_due, CA_wait0]
  | k + 1, j, now => by
    rw [show k + 1 + 1 + j = (k + 1 + j) + 1 by omega, awA_tick (by simp [hasA, CA]) (by simp [endA, CA]), CA_tick (by omega), show now + (k + 1) + 1 = (now + 1) + k + 1 by omega, CA_comes k j (now + 1)]
theorem LJ.close {w wr : World} {S : NS} {now : Nat} {fs : List (Int × Int)} {x y : List (List UInt8)} {r : Bool} {pd : List (Nat × Nat × List UInt8)} {k : Nat} (h : LJ w wr S (CA now fs x false y r pd) k) :
    Calls Try.prog 23 #[.pointer (some ⟨S.nb, 0, none⟩), .int .i64 0] wr fun e w' => e = .returned (.int .i64 0) ∧ ∃ S', Stp wr.heap.size 0 wr w' S S' (CA now fs x true y r pd) := by
  obtain ⟨l, hl, hs, hm⟩ := abs_get (i := 0) h.ab rfl
  refine (Close_yes wr S 0 l h.ok hl hs).mono ?_
  rintro e w' ⟨rfl, h1, h2⟩
  refine ⟨rfl, wLs S 0 { l with sh := true }, ⟨h1, h.so.set hl rfl, ?_, h2, fun x hx => .inl ((own_set (l' := { l with sh := true }) hl rfl).1 hx), fun x hx => .inl ?_, rfl, Nat.le_refl _⟩⟩
  · have e := map_set_modify absL (fun x => (x.1, true)) S.ls 0 l { l with sh := true } hl rfl
    have h3 := h.ab
    unfold abs CA at h3
    injection h3 with e1 e2 e3 e4
    unfold abs CA
    dsimp only
    rw [e, e1, e2, e3, e4]
    simp [List.modify]
  · rcases hx with hx | ⟨z, hz, hx⟩
    · exact .inl hx
    · rcases msgs_set hz with h3 | h3
      · exact .inr ⟨z, List.mem_append.2 (.inl (List.mem_flatMap.2 ⟨l, get_mem hl, h3⟩)), hx⟩
      · exact .inr ⟨z, h3, hx⟩
end Go.Proofs.Ytdlfkdehfenemaa
