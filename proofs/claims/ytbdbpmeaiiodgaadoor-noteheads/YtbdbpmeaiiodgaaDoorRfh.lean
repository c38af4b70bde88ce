import Derived.Test.YtbdbpmeaiiodgaaDoorHs
import Derived.Test.YtbdbpmeaiiodgaaDoorNr
import Derived.Test.YtbdbpmeaiiodgaaDoorRe6
namespace Go.Proofs.YtbdbpmeaiiodgaaDoor
open Go.RowKit Go.Shelf TextNum
set_option maxRecDepth 100000 in
theorem RFormatHead_walk (o : ByteArray) (n : Int) (r : List UInt8) (hr : r.length = 32) (h0 : -9223372036854775808 ≤ n) (h1 : n ≤ 9223372036854775807) (w : World) (hB : BTab w) :
    Calls Tryd.prog 40 #[headV o n r] w fun e w' => e = .returned (.tuple #[vs (fmtH o n r).1, .int .i64 (fmtH o n r).2]) ∧ Up w w' := by
  have hl := HL.new w 77 o n r hr
  have HU := Hid.of ((Up.refl w).alloc (.cells (headC o n r).toArray 77))
  unfold headV
  generalize hcs : (headC o n r).toArray = cs at *
  clear hcs
  have c0 := hl.c0
  have c1 := hl.c1
  have HL0 := Hid.of hl
  clear hl
  go_enter Tryd.func40, Tryd.ntmps40
  go_wp2_with fail
  generalize w.alloc (Obj.cells cs 77) = W1 at *
  refine (RCheckName_walk o W1 (hB.up HU.out)).mono ?_
  rintro e W2 ⟨rfl, hw2⟩
  obtain rfl := hw2.symm
  have u2 : Up W1 W1 := Up.refl _
  have HU2 := Hid.of (HU.out.trans u2)
  have HL2 := Hid.of (HL0.out.up u2)
  replace c0 := u2.cell c0
  replace c1 := u2.cell c1
  clear u2 HL0 HU
  dsimp only
  by_cases hn : nameR o = 0
  · rw [hn]
    by_cases hneg : n < 0
    · have HF := Hid.of (show fmtH o n r = ([], 1) by unfold fmtH; rw [if_neg (by simp [hn]), if_pos (.inl hneg)])
      go_wp2
      go_ret2
      rw [HF.out]
      exact ⟨rfl, HU2.out⟩
    · by_cases hbig : 281474976710656 < n
      · have HF := Hid.of (show fmtH o n r = ([], 1) by unfold fmtH; rw [if_neg (by simp [hn]), if_pos (.inr hbig)])
        go_wp2
        go_ret2
        rw [HF.out]
        exact ⟨rfl, HU2.out⟩
      · have HF := Hid.of (show fmtH o n r = (headT o n r, 0) by unfold fmtH; rw [if_neg (by simp [hn]), if_neg (by omega)])
        have hil := (itoa_len n h0 h1).1
        have hbl : (b64E r).length = 44 := by rw [b64E_length, hr]
        have hol : o.size ≤ 100 := ((name_iff o).1 hn).2.1
        generalize hit : Go.Lib.itoa n = it at *
        generalize hbe : b64E r = be at *
        have HI := Hid.of (And.intro hit hbe)
        clear hit hbe
        have q1 : ¬ 9223372036854775807 < o.size + 1 := by omega
        have q2 : ¬ 9223372036854775807 < o.size + 1 + it.length := by omega
        have q3 : ¬ 9223372036854775807 < o.size + 1 + it.length + 1 := by omega
        have q4 : ¬ 9223372036854775807 < o.size + 1 + it.length + 1 + be.length := by omega
        have q5 : ¬ 9223372036854775807 < o.size + 1 + it.length + 1 + be.length + 1 := by omega
        clear hil hbl hol
        go_wp2_with fail
        go_region_held3 (fun w2 => w2.cell? ⟨w.heap.size, 0, none⟩ = some (.string o) ∧ w2.cell? ⟨w.heap.size, 1, none⟩ = some (.int .i64 n) ∧ Up W1 w2)
          (first
            | exact ⟨c0, c1, (Up.refl _).drew⟩
            | exact ⟨(‹Up _ _›).cell (‹_ ∧ _ ∧ Up W1 _›).1, (‹Up _ _›).cell (‹_ ∧ _ ∧ Up W1 _›).2.1, (‹_ ∧ _ ∧ Up W1 _›).2.2.trans ‹Up _ _›⟩)
          (first
            | (go_at_call 68; refine (RFormat_walk n h0 h1 _).mono ?_; rintro e w5 ⟨rfl, u5⟩; rw [HI.out.1])
            | (go_at_call 69; refine (REncode64_walk _ r _ (HL2.out.sl.up (‹_ ∧ _ ∧ Up W1 _›).2.2) (by omega)).mono ?_; rintro e w5 ⟨rfl, u5⟩; rw [HI.out.2]))
        have HU5 := Hid.of (HU2.out.trans (‹_ ∧ _ ∧ Up W1 _›).2.2)
        have hcat := cat_eq o it be
        rw [hcat]
        go_wp2
        go_ret2
        have HT := Hid.of (show headT o n r = o.data.toList ++ [10] ++ it ++ [10] ++ be ++ [10] by unfold headT; rw [HI.out.1, HI.out.2])
        rw [HF.out]
        show _ = Ending.returned (.tuple #[vs (headT o n r), .int .i64 0]) ∧ _
        rw [HT.out]
        exact ⟨rfl, HU5.out⟩
  · have h70 : nameR o = 70 := (name_val o).resolve_left hn
    have HF := Hid.of (show fmtH o n r = ([], 70) by unfold fmtH; rw [if_pos hn])
    rw [h70]
    go_wp2
    go_ret2
    rw [HF.out]
    exact ⟨rfl, HU2.out⟩
end Go.Proofs.YtbdbpmeaiiodgaaDoor
