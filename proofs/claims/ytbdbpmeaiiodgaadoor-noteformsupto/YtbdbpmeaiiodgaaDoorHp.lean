import Derived.Test.YtbdbpmeaiiodgaaDoorLy
import Derived.Test.YtbdbpmeaiiodgaaDoorNm
import Derived.Test.YtbdbpmeaiiodgaaDoorBf
import Derived.Test.YtbdbpmeaiiodgaaDoorBd
import Derived.Test.YtbdbpmeaiiodgaaDoorNp
namespace Go.Proofs.YtbdbpmeaiiodgaaDoor
open Go.RowKit Go.Shelf TextNum
/-- what heads ask of the variables -/
structure GH (w : World) : Prop where
  s : Go.Lib.WhiteTab 3 w
  l : TabL w
  n : GN w
theorem GH.up {w w' : World} (h : GH w) (k : Up w w') : GH w' := ⟨WhiteTab_up h.s k, h.l.up k, h.n.up k⟩
def headC (o : ByteArray) (n : Int) (r : List UInt8) : List Value := .string o :: .int .i64 n :: cb r
def headV (o : ByteArray) (n : Int) (r : List UInt8) : Value := .agg (headC o n r).toArray
def headT (o : ByteArray) (n : Int) (r : List UInt8) : List UInt8 := o.data.toList ++ [10] ++ Go.Lib.itoa n ++ [10] ++ b64E r ++ [10]
def fmtH (o : ByteArray) (n : Int) (r : List UInt8) : List UInt8 × Int := if nameR o ≠ 0 then ([], 70) else if n < 0 ∨ 281474976710656 < n then ([], 1) else (headT o n r, 0)
/-- where a head lies -/
structure HL (w : World) (b : Nat) (o : ByteArray) (n : Int) (r : List UInt8) : Prop where
  c0 : w.cell? ⟨b, 0, none⟩ = some (.string o)
  c1 : w.cell? ⟨b, 1, none⟩ = some (.int .i64 n)
  sl : Sl w (.slice (some ⟨b, 2, none⟩) 32 32) r
theorem HL.up {w w' : World} {b : Nat} {o : ByteArray} {n : Int} {r : List UInt8} (h : HL w b o n r) (k : Up w w') : HL w' b o n r := ⟨k.cell h.c0, k.cell h.c1, h.sl.up k⟩
theorem HL.new (w : World) (t : TypeId) (o : ByteArray) (n : Int) (r : List UInt8) (hr : r.length = 32) : HL (w.alloc (.cells (headC o n r).toArray t)) w.heap.size o n r := by
  refine ⟨by rw [World.cell?_alloc_at _ _ _ _ rfl]; rfl, by rw [World.cell?_alloc_at _ _ _ _ rfl]; rfl, ?_⟩
  refine ⟨_, _, by rw [hr], by omega, .inr ⟨_, _, rfl, by rw [World.alloc]; simp, fun j hj => ?_⟩⟩
  rw [World.cell?_alloc_at _ _ _ _ rfl, List.getElem?_toArray, Nat.add_comm, headC, List.getElem?_cons_succ, List.getElem?_cons_succ, cb_get hj]
theorem cat_eq (o : ByteArray) (a b : List UInt8) : o ++ { data := #[10] } ++ { data := a.toArray } ++ { data := #[10] } ++ { data := b.toArray } ++ { data := #[10] } = (⟨(o.data.toList ++ [10] ++ a ++ [10] ++ b ++ [10]).toArray⟩ : ByteArray) := by
  apply ByteArray.ext
  apply Array.toList_inj.1
  simp [ByteArray.data_append]
set_option maxRecDepth 100000 in
theorem FormatHead_walk (o : ByteArray) (n : Int) (r : List UInt8) (hr : r.length = 32) (h0 : -9223372036854775808 ≤ n) (h1 : n ≤ 9223372036854775807) (w : World) (hG : GH w) :
    Calls Tryd.prog 28 #[headV o n r] w fun e w' => e = .returned (.tuple #[vs (fmtH o n r).1, .int .i64 (fmtH o n r).2]) ∧ Up w w' := by
  have hl := HL.new w 54 o n r hr
  have HU := Hid.of ((Up.refl w).alloc (.cells (headC o n r).toArray 54))
  unfold headV
  generalize hcs : (headC o n r).toArray = cs at *
  clear hcs
  have c0 := hl.c0
  have c1 := hl.c1
  have HL0 := Hid.of hl
  clear hl
  go_enter Tryd.func28, Tryd.ntmps28
  go_wp2_with fail
  generalize w.alloc (Obj.cells cs 54) = W1 at *
  refine (CheckName_walk o W1 (WhiteTab_up hG.s HU.out)).mono ?_
  rintro e W2 ⟨rfl, u2⟩
  have HU2 := Hid.of (HU.out.trans u2)
  have HL2 := Hid.of (HL0.out.up u2)
  replace c0 := u2.cell c0
  replace c1 := u2.cell c1
  clear u2 HL0 HU
  dsimp only
  by_cases hn : nameR o = 0
  · rw [hn]
    by_cases hneg : n < 0
    · have HF := Hid.of (show fmtH o n r = ([], 1) by unfold fmtH; rw [if_neg (by simp [hn]), if_pos (.inl hneg)])
      go_wp2
      go_ret2
      rw [HF.out]
      exact ⟨rfl, HU2.out⟩
    · by_cases hbig : 281474976710656 < n
      · have HF := Hid.of (show fmtH o n r = ([], 1) by unfold fmtH; rw [if_neg (by simp [hn]), if_pos (.inr hbig)])
        go_wp2
        go_ret2
        rw [HF.out]
        exact ⟨rfl, HU2.out⟩
      · have HF := Hid.of (show fmtH o n r = (headT o n r, 0) by unfold fmtH; rw [if_neg (by simp [hn]), if_neg (by omega)])
        have hil := (itoa_len n h0 h1).1
        have hbl : (b64E r).length = 44 := by rw [b64E_length, hr]
        have hol : o.size ≤ 100 := ((name_iff o).1 hn).2.1
        generalize hit : Go.Lib.itoa n = it at *
        generalize hbe : b64E r = be at *
        have HI := Hid.of (And.intro hit hbe)
        clear hit hbe
        have q1 : ¬ 9223372036854775807 < o.size + 1 := by omega
        have q2 : ¬ 9223372036854775807 < o.size + 1 + it.length := by omega
        have q3 : ¬ 9223372036854775807 < o.size + 1 + it.length + 1 := by omega
        have q4 : ¬ 9223372036854775807 < o.size + 1 + it.length + 1 + be.length := by omega
        have q5 : ¬ 9223372036854775807 < o.size + 1 + it.length + 1 + be.length + 1 := by omega
        clear hil hbl hol
        go_wp2_with fail
        go_region_held3 (fun w2 => w2.cell? ⟨w.heap.size, 0, none⟩ = some (.string o) ∧ w2.cell? ⟨w.heap.size, 1, none⟩ = some (.int .i64 n) ∧ Up W2 w2)
          (first
            | exact ⟨c0, c1, (Up.refl _).drew⟩
            | exact ⟨(‹Up _ _›).cell (‹_ ∧ _ ∧ Up W2 _›).1, (‹Up _ _›).cell (‹_ ∧ _ ∧ Up W2 _›).2.1, (‹_ ∧ _ ∧ Up W2 _›).2.2.trans ‹Up _ _›⟩)
          (first
            | (go_at_call 30; refine (FormatNumber_walk n h0 h1 _ (hG.n.up (HU2.out.trans (‹_ ∧ _ ∧ Up W2 _›).2.2))).mono ?_; rintro e w5 ⟨rfl, u5⟩; rw [HI.out.1])
            | (go_at_call 10; refine (EncodeBase64_walk _ r _ (hG.l.up (HU2.out.trans (‹_ ∧ _ ∧ Up W2 _›).2.2)) (HL2.out.sl.up (‹_ ∧ _ ∧ Up W2 _›).2.2) (by omega)).mono ?_; rintro e w5 ⟨rfl, u5⟩; rw [HI.out.2]))
        have HU5 := Hid.of (HU2.out.trans (‹_ ∧ _ ∧ Up W2 _›).2.2)
        have hcat := cat_eq o it be
        rw [hcat]
        go_wp2
        go_ret2
        have HT := Hid.of (show headT o n r = o.data.toList ++ [10] ++ it ++ [10] ++ be ++ [10] by unfold headT; rw [HI.out.1, HI.out.2])
        rw [HF.out]
        show _ = Ending.returned (.tuple #[vs (headT o n r), .int .i64 0]) ∧ _
        rw [HT.out]
        exact ⟨rfl, HU5.out⟩
  · have h70 : nameR o = 70 := (name_val o).resolve_left hn
    have HF := Hid.of (show fmtH o n r = ([], 70) by unfold fmtH; rw [if_pos hn])
    rw [h70]
    go_wp2
    go_ret2
    rw [HF.out]
    exact ⟨rfl, HU2.out⟩
end Go.Proofs.YtbdbpmeaiiodgaaDoor
