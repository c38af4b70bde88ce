import Derived.Test.YtehnnlhoajdcaaaGreatDoorYb
import Derived.Lib.BytesEntry
namespace Go.Proofs.YtehnnlhoajdcaaaGreatDoor
open Go.RowKit TextNum
theorem bytesOf_nat (ds : List UInt8) : Go.Lib.bytesOf (ds.map fun c => ((c.toNat : Nat) : Int)) = ds := by
 unfold Go.Lib.bytesOf
 rw [List.map_map]
 conv => rhs; rw [← List.map_id ds]
 refine List.map_congr_left fun c _ => ?_
 simp
theorem ixs {w : World} {a : Option Addr} {n c : Nat} {ds : List UInt8} (h : Sb w (.slice a n c) ds) (k : UInt8) : (Extern.BytealgIndexByte.indexByte #[.slice a n c, vb k]).run Tryz.prog w = .ok (.int .i64 (Go.Lib.indexByte ds k)) w := by
 cases ds with
 | nil =>
  obtain ⟨rfl, _, _⟩ := h.len
  cases a with
  | none => exact Go.Lib.run_indexByteNil (P := Tryz.prog) w 0 c (k.toNat : Int)
  | some ad => rfl
 | cons d ds =>
  obtain ⟨b, o, rfl, _⟩ := h.get (j := 0) (by simp)
  obtain ⟨rfl, _, _⟩ := h.len
  have h1 := Go.Lib.run_indexByteSlice (P := Tryz.prog) w b o (d :: ds).length c ((d :: ds).map fun c => ((c.toNat : Nat) : Int)) (by simp) (fun i hi => by
   obtain ⟨b', o', e, h2⟩ := h.get (j := i) hi
   obtain ⟨rfl, rfl⟩ : b' = b ∧ o' = o := by injection e with e; injection e with e1 e2; exact ⟨e1.symm, e2.symm⟩
   rw [h2, List.getD_eq_getElem?_getD, List.getElem?_map, List.getElem?_eq_getElem hi]
   rfl) (k.toNat : Int)
  rw [bytesOf_nat] at h1
  rw [h1]
  simp
set_option maxRecDepth 100000 in
theorem bIndex_walk {a : Option Addr} {n c : Nat} {ds : List UInt8} (k : UInt8) (w : World) (h : Sb w (.slice a n c) ds) : Calls Tryz.prog 157 #[.slice a n c, vb k] w fun e w' => e = .returned (.int .i64 (Go.Lib.indexByte ds k)) ∧ w' = w := by
 have h1 := @run_callFunc_extern Tryz.prog 185 _ Extern.BytealgIndexByte.indexByte Tryz.func185 (by kernel_rfl) (by kernel_rfl) (by kernel_rfl) (by kernel_rfl)
 have h2 := ixs h k
 generalize Go.Lib.indexByte ds k = z at *
 clear h
 go_enter Tryz.func157, Tryz.ntmps157
 go_wp2
 go_ret
 exact ⟨rfl, rfl⟩
set_option maxRecDepth 100000 in
theorem bEqual_walk {v1 v2 : Value} {l1 l2 : List UInt8} (w : World) (h1 : Sb w v1 l1) (h2 : Sb w v2 l2) : Calls Tryz.prog 204 #[v1, v2] w fun e w' => e = .returned (.bool (l1 == l2)) ∧ w' = w := by
 have c1 := conv_sb2 h1
 have c2 := conv_sb2 h2
 clear h1 h2
 go_enter Tryz.func204, Tryz.ntmps204
 go_wp2
 go_ret
 exact ⟨by first | rfl | simp, rfl⟩
set_option maxRecDepth 100000 in
theorem bHasSuffix_walk {a : Option Addr} {n c : Nat} {ds : List UInt8} (k : UInt8) (x : Nat) (w : World) (h : Sb w (.slice a n c) ds) (hx : Sb w (.slice (some ⟨x, 0, none⟩) 1 1) [k]) : Calls Tryz.prog 186 #[.slice a n c, .slice (some ⟨x, 0, none⟩) 1 1] w fun e w' => e = .returned (.bool (decide (ds.getLast? = some k))) ∧ w' = w := by
 obtain ⟨hn, hnc, hcm⟩ := h.len
 have HN := Ho hn
 clear hn
 unfold maxLen at hcm
 by_cases h1 : 1 ≤ n
 · have z1 : (1 : Int) ≤ (n : Int) := by omega
   have hs := h.sub (n - 1) n (by omega) (by rw [← HN.o]; exact Nat.le_refl _)
   obtain ⟨ys, y, rfl⟩ : ∃ ys y, ds = ys ++ [y] := by
    rcases List.eq_nil_or_concat ds with e | ⟨ys, y, e⟩
    · rw [HN.o, e] at h1; simp at h1
    exact ⟨ys, y, by simpa using e⟩
   have HNy := Ho (show n = ys.length + 1 by rw [HN.o]; simp)
   rw [show ((ys ++ [y]).take n).drop (n - 1) = [y] by rw [HNy.o, List.take_of_length_le (by simp), Nat.add_sub_cancel, List.drop_left], show sv a c (n - 1) = Option.map (fun x => x.add (n - 1)) a by unfold sv; rw [if_neg (by omega)]] at hs
   have HE := Ho (bEqual_walk w hs hx)
   have HA := Ho (show decide ((ys ++ [y]).getLast? = some k) = ([y] == [k]) by
    rw [List.getLast?_concat, Bool.eq_iff_iff]
    simp)
   rw [HA.o]
   generalize ([y] == [k]) = r at *
   clear HA hs h hx
   go_enter Tryz.func186, Tryz.ntmps186
   go_wp2_with fail
   refine HE.o.mono ?_
   rintro e w9 ⟨rfl, h9⟩
   obtain rfl := h9.symm
   clear h9
   dsimp only
   go_wp2
   go_ret
   exact ⟨rfl, rfl⟩
 have z1 : ¬ (1 : Int) ≤ (n : Int) := by omega
 have hd : ds = [] := List.eq_nil_of_length_eq_zero (by rw [← HN.o]; omega)
 subst hd
 clear h hx
 go_enter Tryz.func186, Tryz.ntmps186
 go_wp2
 go_ret
 exact ⟨rfl, rfl⟩
set_option maxRecDepth 100000 in
theorem bTrimSuffix_walk {a : Option Addr} {n c : Nat} {ds : List UInt8} (x : Nat) (w : World) (h : Sb w (.slice a n c) ds) (hx : Sb w (.slice (some ⟨x, 0, none⟩) 1 1) [13]) : Calls Tryz.prog 158 #[.slice a n c, .slice (some ⟨x, 0, none⟩) 1 1] w fun e w' => e = .returned (.slice a (tcr ds).length c) ∧ w' = w := by
 obtain ⟨hn, hnc, hcm⟩ := h.len
 have HN := Ho hn
 have HH := Ho (bHasSuffix_walk 13 x w h hx)
 clear hn h hx
 unfold maxLen at hcm
 by_cases hl : ds.getLast? = some 13
 · have HT := Ho (show (tcr ds).length = n - 1 by unfold tcr; rw [if_pos hl, List.length_dropLast, ← HN.o])
   have h1 : 1 ≤ n := by
    rw [HN.o]
    cases ds with
    | nil => cases hl
    | cons d r => simp
   rw [decide_eq_true hl] at HH
   rw [HT.o]
   clear hl
   have z1 : (1 : Int) ≤ (n : Int) := by omega
   have z2 : (n : Int) - 1 ≤ (c : Int) := by omega
   go_enter Tryz.func158, Tryz.ntmps158
   go_wp2_with fail
   refine HH.o.mono ?_
   rintro e w9 ⟨rfl, h9⟩
   obtain rfl := h9.symm
   clear h9
   dsimp only
   go_wp2
   go_ret
   exact ⟨by first | rfl | simp, rfl⟩
 have HT := Ho (show (tcr ds).length = n by unfold tcr; rw [if_neg hl, ← HN.o])
 rw [decide_eq_false hl] at HH
 rw [HT.o]
 clear hl
 go_enter Tryz.func158, Tryz.ntmps158
 go_wp2_with fail
 refine HH.o.mono ?_
 rintro e w9 ⟨rfl, h9⟩
 obtain rfl := h9.symm
 clear h9
 dsimp only
 go_wp2
 go_ret
 exact ⟨rfl, rfl⟩
end Go.Proofs.YtehnnlhoajdcaaaGreatDoor
