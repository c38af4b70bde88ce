import Derived.Test.YtdlfkdehfenemaaCb
namespace Go.Proofs.Ytdlfkdehfenemaa
open Go.RowKit Go.Conc TextNum
/-- what is lent: the bytes and two hundred marks -/
def lnt (l : List UInt8) : List UInt8 := l ++ List.replicate 200 199
def stp (T : List UInt8) (i : Nat) : List UInt8 := T.take i ++ List.replicate (T.length - i) 0
theorem lnt_len (l : List UInt8) : (lnt l).length = l.length + 200 := by rw [lnt, List.length_append, List.length_replicate]
theorem stp_len {T : List UInt8} {i : Nat} (h : i ≤ T.length) : (stp T i).length = T.length := by simp [stp]; omega
theorem stp_set {T : List UInt8} {i : Nat} (h : i < T.length) : (stp T i).set i T[i] = stp T (i + 1) := by
  unfold stp
  have hl : (T.take i).length = i := by rw [List.length_take]; omega
  rw [show T.length - i = (T.length - (i + 1)) + 1 by omega, List.replicate_succ, List.set_append, if_neg (by omega), hl, Nat.sub_self, List.set_cons_zero, List.take_succ_eq_append_getElem h, List.append_assoc]
  rfl
theorem lnt_lo {l : List UInt8} {i : Nat} (h : i < l.length) (h' : i < (lnt l).length) : (lnt l)[i] = l[i] := List.getElem_append_left h
theorem lnt_hi {l : List UInt8} {i : Nat} (h : l.length ≤ i) (h' : i < (lnt l).length) : (lnt l)[i] = 199 := (List.getElem_append_right h).trans (List.getElem_replicate _)
theorem mkBytes (n : Nat) (hn : n ≤ 140737488355328) (w : World) : (Instr.makeSlice 47 (.int .i64 (n : Int)) (.int .i64 (n : Int))).run Try.prog w = .ok (.slice (some ⟨w.heap.size, 0, none⟩) n n) (w.alloc (.cells (Array.replicate n (Value.int .u8 0)) 5)) := by
  obtain ⟨i0, hi, hz0, hz1, hz2⟩ := info_parts Try.infoU8
  have := run_make (P := Try.prog) w 47 5 i0 _ Try.underlying47 hi hz0 .i64 .i64 (n : Int) (n : Int) (by omega) (by omega) (by rw [hz2]; omega) (by omega)
  rw [hz1] at this
  simp only [Int.toNat_natCast, Nat.mul_one] at this
  have e : madeCells (Value.int .u8 0).cells n = (Array.replicate n (Value.int .u8 0)) := by
    apply Array.ext'
    rw [show (Value.int .u8 0).cells = #[Value.int .u8 0] from rfl, toList_madeCells_one, Array.toList_replicate]
  rw [e] at this
  exact this
theorem ow_made (n : Nat) (hn : n ≤ 140737488355328) (w : World) : Ow (w.alloc (.cells (Array.replicate n (Value.int .u8 0)) 5)) w.heap.size (.slice (some ⟨w.heap.size, 0, none⟩) n n) (List.replicate n 0) := by
  refine ⟨by simp [cb], .inr ⟨w.heap.size, n, _, by simp, Nat.le_refl _, heap_alloc_new w _, by simp, by simp only [maxLen]; omega, by simp, ?_⟩⟩
  simp [cb]
set_option maxRecDepth 100000 in
set_option maxHeartbeats 1000000 in
theorem lent_walk (w : World) (v : Value) (l : List UInt8) (h : Sb w v l) (hl : l.length ≤ 1099511627776) :
    Calls Try.prog 22 #[v] w fun e w' => e = .returned (.slice (some ⟨w.heap.size, 0, none⟩) (l.length + 200) (l.length + 200)) ∧ Ow w' w.heap.size (.slice (some ⟨w.heap.size, 0, none⟩) (l.length + 200) (l.length + 200)) (lnt l) ∧ Up w w' := by
  obtain ⟨a, c, rfl, hc, _⟩ := id h
  have HS := Hid.of h
  have HST := Hid.of (And.intro (show stp (lnt l) (l.length + 200) = lnt l by unfold stp; rw [← lnt_len]; simp) trivial)
  have HTL := Hid.of (And.intro (lnt_len l) trivial)
  have HLO := Hid.of (fun i h h' => lnt_lo (l := l) (i := i) h h')
  have HHI := Hid.of (fun i h h' => lnt_hi (l := l) (i := i) h h')
  clear h
  obtain ⟨n, hn⟩ : ∃ n, l.length = n := ⟨_, rfl⟩
  have HNN := Hid.of (And.intro hn trivial)
  rw [hn] at hc hl HTL HST ⊢
  have hw1 : IntKind.i64.wrap ((n : Int) + 200) = (n : Int) + 200 := by rw [IntKind.wrap_i64]; omega
  have hmk := mkBytes (n + 200) (by omega) w
  rw [show ((n + 200 : Nat) : Int) = (n : Int) + 200 by omega] at hmk
  have HO0 := Hid.of (ow_made (n + 200) (by omega) w)
  have HU0 := Hid.of ((Up.refl w).alloc (.cells (Array.replicate (n + 200) (Value.int .u8 0)) 5))
  clear hn
  go_enter Try.func22, Try.ntmps22
  go_wp2
  generalize w.alloc (.cells (Array.replicate (n + 200) (Value.int .u8 0)) 5) = W0 at *
  have H1 := Hid.of (show Ow W0 w.heap.size (.slice (some ⟨w.heap.size, 0, none⟩) (n + 200) (n + 200)) (stp (lnt l) 0) ∧ Up w W0 from ⟨by
    unfold stp
    rw [List.take_zero, List.nil_append, Nat.sub_zero, HTL.out.1]
    exact HO0.out, HU0.out⟩)
  clear HO0 HU0 hmk
  generalize hb0 : w.heap.size = b0 at *
  have HB0 := Hid.of (And.intro hb0 trivial)
  clear hb0
  go_loopw [4] (fun v4 wr => ∃ i : Nat, v4 = .int .i64 (i : Int) ∧ i ≤ n ∧ Hid (Ow wr b0 (.slice (some ⟨b0, 0, none⟩) (n + 200) (n + 200)) (stp (lnt l) i) ∧ Up w wr)) (fun v4 _ => n - (intOf v4).toNat)
  case atStart => exact ⟨0, rfl, by omega, H1⟩
  case round =>
    obtain ⟨i, rfl, hi, hI⟩ := hrel
    by_cases hlt : i < n
    · have hltz : (i : Int) < (n : Int) := by omega
      have hlt2 : (i : Int) < ((n + 200 : Nat) : Int) := by omega
      have hlt3 : (i : Int) < (n : Int) + 200 := by omega
      have hT : i < (lnt l).length := by rw [HTL.out.1]; omega
      have hil : i < l.length := by rw [HNN.out.1]; exact hlt
      obtain ⟨k1, k2⟩ := ow_cells hI.out.1 (i := i) (by rw [stp_len (by omega)]; exact hT)
      have k3 := hI.out.1.put i (lnt l)[i]
      rw [stp_set hT, HLO.out i hil hT] at k3
      obtain ⟨b, off, rfl, kc, _⟩ := (HS.out.up hI.out.2).cell hil
      have hcz : (n : Int) ≤ (c : Int) := by omega
      obtain ⟨y, hy⟩ : ∃ y, l[i] = y := ⟨_, rfl⟩
      rw [hy] at k3 kc
      have HN := Hid.of (And.intro k3 (hI.out.2.by (grown_set wr ⟨b0, i, none⟩ (.int .u8 (y.toNat : Int))) (fun g hg => by have := Option.some.inj hg; have := HB0.out.1; dsimp only at *; omega)))
      have hiw : IntKind.i64.wrap ((i : Int) + 1) = (i : Int) + 1 := by rw [IntKind.wrap_i64]; omega
      clear k3 hy hI
      go_wp2
      go_roundw
      case rel => exact ⟨i + 1, by simp, by omega, HN⟩
      case measure => simp [intOf]; omega
    · have hltz : ¬ (i : Int) < (n : Int) := by omega
      obtain rfl : i = n := by omega
      go_wp2
      go_loopw [5] (fun v5 wr => ∃ j : Nat, v5 = .int .i64 (j : Int) ∧ i ≤ j ∧ j ≤ i + 200 ∧ Hid (Ow wr b0 (.slice (some ⟨b0, 0, none⟩) (i + 200) (i + 200)) (stp (lnt l) j) ∧ Up w wr)) (fun v5 _ => i + 200 - (intOf v5).toNat)
      case atStart => exact ⟨i, rfl, by omega, by omega, hI⟩
      case round =>
        clear hI
        obtain ⟨j, rfl, hij, hj, hI⟩ := hrel
        by_cases hjl : j < i + 200
        · have hjl' : (j : Int) < ((i + 200 : Nat) : Int) := by omega
          have hjl2 : (j : Int) < (i : Int) + 200 := by omega
          have hT : j < (lnt l).length := by rw [HTL.out.1]; omega
          obtain ⟨k1, k2⟩ := ow_cells hI.out.1 (i := j) (by rw [stp_len (by omega)]; exact hT)
          have k3 := hI.out.1.put j (lnt l)[j]
          rw [stp_set hT, HHI.out j (by rw [HNN.out.1]; omega) hT] at k3
          have HN := Hid.of (And.intro k3 (hI.out.2.by (grown_set wr ⟨b0, j, none⟩ (.int .u8 199)) (fun g hg => by have := Option.some.inj hg; have := HB0.out.1; dsimp only at *; omega)))
          have hjw : IntKind.i64.wrap ((j : Int) + 1) = (j : Int) + 1 := by rw [IntKind.wrap_i64]; omega
          clear k3 hI
          go_wp2
          go_roundw
          case rel => exact ⟨j + 1, by simp, by omega, by omega, HN⟩
          case measure => simp [intOf]; omega
        · have hjl' : ¬ (j : Int) < ((i + 200 : Nat) : Int) := by omega
          have hjl2 : ¬ (j : Int) < (i : Int) + 200 := by omega
          obtain rfl : j = i + 200 := by omega
          go_wp2
          go_ret
          have h3 := hI.out.1
          rw [HST.out.1] at h3
          rw [HB0.out.1]
          exact ⟨rfl, h3, hI.out.2⟩
/-- the lent bytes without their marks -/
theorem lnt_sb {w : World} {B b : Nat} {l : List UInt8} {n : Nat} (hn : n = l.length) (h : Ow w B (.slice (some ⟨b, 0, none⟩) (n + 200) (n + 200)) (lnt l)) : Sb w (.slice (some ⟨b, 0, none⟩) n (n + 200)) l := by
  subst hn
  have h1 := Ow.sb h
  rw [← lnt_len] at h1
  have h2 := Sb.take' h1 l.length (by rw [lnt_len]; omega)
  rw [show (lnt l).take l.length = l by unfold lnt; simp, lnt_len] at h2
  exact h2
end Go.Proofs.Ytdlfkdehfenemaa
