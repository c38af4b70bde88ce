import Derived.Test.YtehnnlhoajdcaaaGreatDoorYd
import Derived.Test.YtehnnlhoajdcaaaGreatDoorYb
import Derived.Test.YtehnnlhoajdcaaaGreatDoorMo
import Derived.Lib.CountLaws
import Derived.Lib.Split
import Derived.Test.YtehnnlhoajdcaaaGreatDoorMg
import Derived.Test.YtehnnlhoajdcaaaGreatDoorNa
import Derived.Test.YtehnnlhoajdcaaaGreatDoorMc
import Derived.Test.YtehnnlhoajdcaaaGreatDoorMp
namespace Go.Proofs.YtehnnlhoajdcaaaGreatDoor
open Go.RowKit Go.Shelf TextNum
def lnA (l : List UInt8) (k : Nat) : List UInt8 × Int := match fnl (l.drop k) with
 | none => ([], -1)
 | some i => (tcr ((l.drop k).take i), ((k + i + 1 : Nat) : Int))
theorem fnl_none {l : List UInt8} (h : (10 : UInt8) ∉ l) : fnl l = none := by
 unfold fnl
 rw [List.findIdx?_eq_none_iff]
 intro x hx
 rw [beq_eq_false_iff_ne]
 rintro rfl
 exact h hx
theorem fnl_some {a r : List UInt8} (h : (10 : UInt8) ∉ a) : fnl (a ++ 10 :: r) = some a.length := by
 unfold fnl
 rw [List.findIdx?_append]
 have h1 : List.findIdx? (fun x => x == 10) a = none := fnl_none h
 rw [h1, List.findIdx?_cons]
 simp
theorem lnA_end {l : List UInt8} {k : Nat} (h : (10 : UInt8) ∉ l.drop k) : lnA l k = ([], -1) := by
 unfold lnA
 rw [fnl_none h]
theorem lnA_at {l : List UInt8} {k i : Nat} (hk : k ≤ i) (hi : i < l.length) (h : (10 : UInt8) ∉ (l.drop k).take (i - k)) (h10 : l[i] = 10) : lnA l k = (tcr ((l.drop k).take (i - k)), ((i + 1 : Nat) : Int)) := by
 have e : l.drop k = (l.drop k).take (i - k) ++ 10 :: (l.drop (i + 1)) := by
  conv => lhs; rw [← List.take_append_drop (i - k) (l.drop k), List.drop_drop, show k + (i - k) = i by omega, List.drop_eq_getElem_cons hi, h10]
 have hl : ((l.drop k).take (i - k)).length = i - k := by rw [List.length_take, List.length_drop]; omega
 unfold lnA
 have hf : fnl (l.drop k) = some (i - k) := by
  rw [e, fnl_some h, hl]
 rw [hf]
 dsimp only
 rw [show k + (i - k) + 1 = i + 1 by omega]
theorem extr_mid (s : ByteArray) (a b : Nat) : (s.extract a b).data.toList = (s.data.toList.drop a).take (b - a) := by
 rw [ByteArray.data_extract, Array.toList_extract, List.extract_eq_take_drop]
theorem vs_extr (s : ByteArray) (a b : Nat) : (.string (s.extract a b) : Value) = vs ((s.data.toList.drop a).take (b - a)) := by
 rw [← extr_mid]
theorem take_last {l : List UInt8} {k i : Nat} (hk : k < i) (hi : i ≤ l.length) : ((l.drop k).take (i - k)).getLast? = some (l[i - 1]'(by omega)) := by
 have hl : ((l.drop k).take (i - k)).length = i - k := by rw [List.length_take, List.length_drop]; omega
 rw [List.getLast?_eq_getElem?, hl, List.getElem?_take, if_pos (by omega), List.getElem?_drop, show k + (i - k - 1) = i - 1 by omega, List.getElem?_eq_getElem (by omega)]
theorem tcr_mid {l : List UInt8} {k i : Nat} (hk : k < i) (hi : i ≤ l.length) (h : l[i - 1]'(by omega) = 13) : tcr ((l.drop k).take (i - k)) = (l.drop k).take (i - 1 - k) := by
 have hl : ((l.drop k).take (i - k)).length = i - k := by rw [List.length_take, List.length_drop]; omega
 unfold tcr
 rw [take_last hk hi, h, if_pos rfl, List.dropLast_eq_take, hl, List.take_take, Nat.min_eq_left (by omega), show i - k - 1 = i - 1 - k by omega]
theorem tcr_not {l : List UInt8} {k i : Nat} (hk : k < i) (hi : i ≤ l.length) (h : l[i - 1]'(by omega) ≠ 13) : tcr ((l.drop k).take (i - k)) = (l.drop k).take (i - k) := by
 unfold tcr
 rw [take_last hk hi, if_neg (by simpa using h)]
set_option maxRecDepth 100000 in
set_option maxHeartbeats 2000000 in
theorem RlineAt_walk (s : ByteArray) (k : Nat) (hs : s.size ≤ 1099511627776) (hk : k ≤ 1099511627776) (w : World) : Calls Tryz.prog 83 #[.string s, .int .i64 (k : Int)] w fun e w' => e = .returned (.tuple #[vs (lnA s.data.toList k).1, .int .i64 (lnA s.data.toList k).2]) ∧ Up w w' := by
 obtain ⟨L, hL⟩ := ny s.data.toList
 have HLL := Ho hL
 have HS := Ho (show s.size = L.length by rw [← hL]; exact Go.Lib.size_eq s)
 rw [hL]
 clear hL
 obtain ⟨rv, hrv⟩ := ny (lnA L k)
 have HR := Ho hrv
 rw [hrv]
 clear hrv
 go_enter Tryz.func83, Tryz.ntmps83
 go_wp2
 go_loopw [6] (fun v6 wr => ∃ i : Nat, v6 = .int .i64 (i : Int) ∧ k ≤ i ∧ i ≤ 1099511627776 ∧ Hd (Up w wr ∧ (10 : UInt8) ∉ (L.drop k).take (i - k))) (fun v6 _ => s.size - (intOf v6).toNat)
 case atStart => exact ⟨k, rfl, Nat.le_refl _, hk, Ho ⟨Up.refl _, by rw [Nat.sub_self]; simp⟩⟩
 case round =>
  obtain ⟨i, rfl, hki, hik, hU⟩ := hrel
  have HU := Ho hU.o
  clear hU
  by_cases hil : i < s.size
  · have hilz : (i : Int) < (s.size : Int) := by omega
    have hg := sget' s i hil
    have hiL : i < L.length := by rw [← HS.o]; exact hil
    have hgx : s.data.toList[i]'(by rw [HLL.o]; exact hiL) = L[i] := by
     have h1 := HLL.o
     subst h1
     rfl
    rw [hgx] at hg
    clear hgx
    have HT := Ho (show (L.drop k).take (i + 1 - k) = (L.drop k).take (i - k) ++ [L[i]] by
     rw [show i + 1 - k = (i - k) + 1 by omega, List.take_succ_eq_append_getElem (by rw [List.length_drop]; omega), List.getElem_drop]
     simp only [show k + (i - k) = i by omega])
    by_cases hx : L[i] = 10
    · have HA := Ho (lnA_at hki hiL HU.o.2 hx)
      rw [hx] at hg
      clear HT hx
      by_cases hlt : k < i
      · have hltz : (k : Int) < (i : Int) := by omega
        have hi1 : i - 1 < s.size := by omega
        have hg1 := sget' s (i - 1) hi1
        have hiL1 : i - 1 < L.length := by omega
        have hgx : s.data.toList[i - 1]'(by rw [HLL.o]; exact hiL1) = L[i - 1] := by
         have h1 := HLL.o
         subst h1
         rfl
        rw [hgx] at hg1
        clear hgx
        have hsub : ((i : Int) - 1) = ((i - 1 : Nat) : Int) := by omega
        by_cases h13 : L[i - 1] = 13
        case' _ =>
         have HE := Ho (show rv = ((L.drop k).take (i - 1 - k), ((i + 1 : Nat) : Int)) by rw [← HR.o, HA.o, tcr_mid hlt (by omega) h13])
         rw [h13] at hg1
         have b1 : (k : Int) ≤ (i : Int) - 1 := by omega
         have b2 : (i : Int) - 1 ≤ (s.size : Int) := by omega
         have b3 : (0 : Int) ≤ (i : Int) - 1 := by omega
        rotate_left
        case' _ =>
         have HE := Ho (show rv = ((L.drop k).take (i - k), ((i + 1 : Nat) : Int)) by rw [← HR.o, HA.o, tcr_not hlt (by omega) h13])
         have h13z : ((L[i - 1].toNat : Int) == 13) = false := by
          rw [beq_eq_false_iff_ne]
          intro e
          exact h13 (UInt8.toNat_inj.1 (by have : (13 : UInt8).toNat = 13 := rfl; omega))
         generalize L[i - 1] = x1 at *
         clear h13
        all_goals
         go_wp2
         go_ret2
         rw [HE.o]
         refine ⟨?_, HU.o.1⟩
         rw [vs_extr, HLL.o]
         exact congrArg (fun z => Ending.returned (Value.tuple #[_, Value.int IntKind.i64 z])) (by omega)
      have hltz : ¬ (k : Int) < (i : Int) := by omega
      obtain rfl : k = i := by omega
      have HE := Ho (show rv = ([], ((k + 1 : Nat) : Int)) by
       rw [← HR.o, HA.o, Nat.sub_self]
       rfl)
      go_wp2
      go_ret2
      rw [HE.o]
      refine ⟨?_, HU.o.1⟩
      exact congrArg (fun z => Ending.returned (Value.tuple #[_, Value.int IntKind.i64 z])) (by omega)
    have hxz : ((L[i].toNat : Int) == 10) = false := by
     rw [beq_eq_false_iff_ne]
     intro e
     exact hx (UInt8.toNat_inj.1 (by have : (10 : UInt8).toNat = 10 := rfl; omega))
    have HN := Ho (show (10 : UInt8) ∉ (L.drop k).take (i + 1 - k) by
     rw [HT.o]
     intro hm
     rcases List.mem_append.1 hm with h | h
     · exact HU.o.2 h
     exact hx (List.mem_singleton.1 h).symm)
    clear HT
    generalize L[i] = x at *
    clear hx
    go_wp2
    go_roundw
    all_goals first
     | exact ⟨i + 1, by go_num, by omega, by omega, Ho ⟨HU.o.1, HN.o⟩⟩
     | (simp [intOf]; omega)
  have hilz : ¬ (i : Int) < (s.size : Int) := by omega
  have HE := Ho (show rv = ([], -1) by
   rw [← HR.o]
   refine lnA_end ?_
   have h1 := HU.o.2
   rw [List.take_of_length_le (by rw [List.length_drop, ← HS.o]; omega)] at h1
   exact h1)
  go_wp2
  go_ret2
  rw [HE.o]
  exact ⟨rfl, HU.o.1⟩
theorem fnl_take {l : List UInt8} {i m : Nat} (h : fnl l = some i) (hm : i < m) : fnl (l.take m) = some i := by
 unfold fnl at *
 rw [List.findIdx?_eq_some_iff_getElem] at h ⊢
 obtain ⟨h1, h2, h3⟩ := h
 refine ⟨by rw [List.length_take]; omega, ?_, ?_⟩
 · rw [List.getElem_take]; exact h2
 intro j hj
 rw [List.getElem_take]
 exact h3 j hj
theorem fnl_take_none {l : List UInt8} {i m : Nat} (h : fnl l = some i) (hm : m ≤ i) : fnl (l.take m) = none := by
 unfold fnl at *
 rw [List.findIdx?_eq_some_iff_getElem] at h
 obtain ⟨h1, h2, h3⟩ := h
 rw [List.findIdx?_eq_none_iff]
 intro x hx
 obtain ⟨j, hj, rfl⟩ := List.getElem_of_mem hx
 rw [List.length_take] at hj
 have := h3 j (by omega)
 rw [List.getElem_take]
 simpa using this
theorem fnl_take_no {l : List UInt8} {m : Nat} (h : fnl l = none) : fnl (l.take m) = none := by
 unfold fnl at *
 rw [List.findIdx?_eq_none_iff] at *
 exact fun x hx => h x (List.mem_of_mem_take hx)
theorem tcr_ge (l : List UInt8) : l.length ≤ (tcr l).length + 1 := by
 unfold tcr
 split
 · rw [List.length_dropLast]; omega
 omega
theorem cutL_ref (m : Nat) (l : List UInt8) : cutL m l = match fnl l with
  | none => if l.length < m + 2 then .error 2 else .error 1
  | some i => if m < (tcr (l.take i)).length then .error 1 else .ok (tcr (l.take i), i + 1) := by
 unfold cutL
 cases hf : fnl l with
 | none => rw [fnl_take_no hf]
 | some i =>
  have hl := fnl_lt hf
  by_cases hi : i < m + 2
  · rw [fnl_take hf hi]
  rw [fnl_take_none hf (by omega)]
  have h1 := tcr_ge (l.take i)
  rw [List.length_take, Nat.min_eq_left (by omega)] at h1
  dsimp only
  rw [if_neg (by omega), if_pos (by omega)]
def rfl' : Nat → List UInt8 → Option (List (List UInt8) × Nat × Nat)
 | 0, _ => none
 | f + 1, l => match fnl l with
   | none => none
   | some i => if tcr (l.take i) = [] then some ([], 0, i + 1) else (rfl' f (l.drop (i + 1))).map fun p => (tcr (l.take i) :: p.1, i + 1 + p.2.1, i + 1 + p.2.2)
theorem rfl'_take : ∀ (f m : Nat) (l : List UInt8) (ls : List (List UInt8)) (p a : Nat), m ≤ 16384 → a ≤ m → rfl' f l = some (ls, p, a) → mfl f (l.take m) = some (p, a)
 | 0, _, _, _, _, _, _, _, h => by cases h
 | f + 1, m, l, ls, p, a, hm, ha, h => by
  unfold rfl' at h
  cases hf : fnl l with
  | none => rw [hf] at h; cases h
  | some i =>
   rw [hf] at h
   dsimp only at h
   have hil := fnl_lt hf
   have key : i < m := by
    split at h
    · injection h with h; injection h with _ h; injection h with _ h; omega
    obtain ⟨q, _, h2⟩ := Option.map_eq_some_iff.1 h
    injection h2 with _ h2; injection h2 with _ h2; omega
   have ht : (l.take m).take i = l.take i := by rw [List.take_take, Nat.min_eq_left (by omega)]
   have hl1 := tcr_len (l.take i)
   rw [List.length_take] at hl1
   unfold mfl
   rw [cutL_ref, fnl_take hf key]
   dsimp only
   rw [ht, if_neg (by omega)]
   dsimp only
   split at h
   · rename_i he
     rw [if_pos he]
     injection h with h; injection h with _ h; injection h with h1 h2
     rw [← h1, ← h2]
   rename_i he
   rw [if_neg he]
   obtain ⟨⟨ls', p', a'⟩, h1, h2⟩ := Option.map_eq_some_iff.1 h
   injection h2 with h3 h2; injection h2 with h4 h5
   dsimp only at h3 h4 h5
   rw [List.drop_take, rfl'_take f (m - (i + 1)) (l.drop (i + 1)) ls' p' a' (by omega) (by omega) h1]
   simp only [Option.map_some]
   rw [h4, h5]
theorem rfl'_of : ∀ (f : Nat) (l : List UInt8) (p a : Nat), mfl f l = some (p, a) → ∃ ls, rfl' f l = some (ls, p, a)
 | 0, _, _, _, h => by cases h
 | f + 1, l, p, a, h => by
  unfold mfl at h
  rw [cutL_ref] at h
  cases hf : fnl l with
  | none =>
   rw [hf] at h
   dsimp only at h
   split at h
   · rename_i e; split at e <;> first | cases h | cases e
   rename_i e; split at e <;> cases e
  | some i =>
   rw [hf] at h
   dsimp only at h
   by_cases hc : 16384 < (tcr (l.take i)).length
   · rw [if_pos hc] at h; cases h
   rw [if_neg hc] at h
   dsimp only at h
   unfold rfl'
   rw [hf]
   dsimp only
   split at h
   · rename_i he
     rw [if_pos he]
     injection h with h; injection h with h1 h2
     exact ⟨[], by rw [← h1, ← h2]⟩
   rename_i he
   rw [if_neg he]
   obtain ⟨⟨p', a'⟩, h1, h2⟩ := Option.map_eq_some_iff.1 h
   obtain ⟨ls, h3⟩ := rfl'_of f _ p' a' h1
   injection h2 with h4 h5
   dsimp only at h4 h5
   exact ⟨tcr (l.take i) :: ls, by rw [h3]; simp only [Option.map_some]; rw [h4, h5]⟩
theorem rfl'_more (t : List UInt8) : ∀ (f : Nat) (l : List UInt8) (q : List (List UInt8) × Nat × Nat), rfl' f l = some q → rfl' f (l ++ t) = some q
 | 0, _, _, h => by cases h
 | f + 1, l, q, h => by
  unfold rfl' at h ⊢
  cases hf : fnl l with
  | none => rw [hf] at h; cases h
  | some i =>
   have hil := fnl_lt hf
   rw [hf] at h
   rw [fnl_app hf]
   dsimp only at h ⊢
   rw [List.take_append_of_le_length (by omega)]
   split at h
   · rename_i he; rw [if_pos he]; exact h
   rename_i he
   rw [if_neg he]
   obtain ⟨q', h1, h2⟩ := Option.map_eq_some_iff.1 h
   rw [List.drop_append_of_le_length (by omega), rfl'_more t f _ q' h1, ← h2]
   rfl
theorem rfl'_fuel : ∀ (f g : Nat) (l : List UInt8), l.length < f → l.length < g → rfl' f l = rfl' g l
 | 0, _, _, h, _ => absurd h (by omega)
 | _, 0, _, _, h => absurd h (by omega)
 | f + 1, g + 1, l, hf, hg => by
  unfold rfl'
  cases hc : fnl l with
  | none => rfl
  | some i =>
   have h1 := fnl_lt hc
   dsimp only
   rw [rfl'_fuel f g (l.drop (i + 1)) (by rw [List.length_drop]; omega) (by rw [List.length_drop]; omega)]
def rF (l : List UInt8) : Option (List (List UInt8) × Nat × Nat) := rfl' (l.length + 1) l
theorem mF_ref (l : List UInt8) : mF l = match rF l with
  | none => if 16384 < l.length then .error 1 else .error 2
  | some (_, p, a) => if 16384 < a then .error 1 else .ok (p, a) := by
 unfold mF rF
 cases hr : rfl' (l.length + 1) l with
 | none =>
  cases hm : mfl (l.length + 1) (l.take 16384) with
  | none => rfl
  | some q =>
   obtain ⟨p, a⟩ := q
   obtain ⟨ls, h1⟩ := rfl'_of _ _ _ _ hm
   have h2 := rfl'_more (l.drop 16384) _ _ _ h1
   rw [List.take_append_drop, hr] at h2
   cases h2
 | some q =>
  obtain ⟨ls, p, a⟩ := q
  dsimp only
  by_cases ha : 16384 < a
  · rw [if_pos ha]
    cases hm : mfl (l.length + 1) (l.take 16384) with
    | none =>
     have h1 : a ≤ l.length := by
      have key : ∀ (f : Nat) (l : List UInt8) (ls : List (List UInt8)) (p a : Nat), rfl' f l = some (ls, p, a) → a ≤ l.length := by
       intro f
       induction f with
       | zero => intro l ls p a h; cases h
       | succ f ih =>
        intro l ls p a h
        unfold rfl' at h
        cases hf : fnl l with
        | none => rw [hf] at h; cases h
        | some i =>
         have hil := fnl_lt hf
         rw [hf] at h
         dsimp only at h
         split at h
         · injection h with h; injection h with _ h; injection h with _ h; omega
         obtain ⟨⟨ls', p', a'⟩, h1, h2⟩ := Option.map_eq_some_iff.1 h
         have := ih _ _ _ _ h1
         rw [List.length_drop] at this
         injection h2 with _ h2; injection h2 with _ h2
         dsimp only at h2
         omega
      exact key _ _ _ _ _ hr
     dsimp only
     rw [if_pos (by omega)]
    | some q =>
     obtain ⟨p', a'⟩ := q
     obtain ⟨ls', h1⟩ := rfl'_of _ _ _ _ hm
     have h2 := rfl'_more (l.drop 16384) _ _ _ h1
     rw [List.take_append_drop, hr] at h2
     injection h2 with h2; injection h2 with _ h2; injection h2 with _ h2
     have h3 := mfl_ok _ _ _ hm
     rw [List.length_take] at h3
     dsimp only at h3
     omega
  rw [if_neg ha, rfl'_take _ 16384 l ls p a (Nat.le_refl _) (by omega) hr]
theorem linesOf_line {a : List UInt8} (h : (10 : UInt8) ∉ a) (r : List UInt8) : linesOf (a ++ 10 :: r) = a :: linesOf r := by
 rw [linesOf_cons (by simp), take_line h, drop_line h]
theorem fnl_no {l : List UInt8} {i : Nat} (h : fnl l = some i) : (10 : UInt8) ∉ l.take i ∧ l.drop i = 10 :: l.drop (i + 1) := by
 unfold fnl at h
 rw [List.findIdx?_eq_some_iff_getElem] at h
 obtain ⟨h1, h2, h3⟩ := h
 refine ⟨?_, ?_⟩
 · intro hx
   obtain ⟨j, hj, e⟩ := List.getElem_of_mem hx
   rw [List.length_take] at hj
   rw [List.getElem_take] at e
   have := h3 j (by omega)
   rw [e] at this
   exact this rfl
 rw [List.drop_eq_getElem_cons h1]
 rw [beq_iff_eq] at h2
 rw [h2]
theorem rfl'_lines : ∀ (f : Nat) (l : List UInt8) (ls : List (List UInt8)) (p a : Nat), rfl' f l = some (ls, p, a) → (linesOf (l.take p)).map tcr = ls ∧ (l.take p).count 10 = ls.length
 | 0, _, _, _, _, h => by cases h
 | f + 1, l, ls, p, a, h => by
  unfold rfl' at h
  cases hf : fnl l with
  | none => rw [hf] at h; cases h
  | some i =>
   have hil := fnl_lt hf
   obtain ⟨hn1, hn2⟩ := fnl_no hf
   rw [hf] at h
   dsimp only at h
   split at h
   · injection h with h; injection h with h0 h; injection h with h1 h2
     subst h0 h1
     exact ⟨rfl, rfl⟩
   obtain ⟨⟨ls', p', a'⟩, h1, h2⟩ := Option.map_eq_some_iff.1 h
   injection h2 with h3 h2; injection h2 with h4 h5
   dsimp only at h3 h4 h5
   have ih := rfl'_lines f _ _ _ _ h1
   have e : l.take p = l.take i ++ 10 :: (l.drop (i + 1)).take p' := by
    rw [← h4, show i + 1 + p' = i + (p' + 1) by omega, List.take_add, hn2]
    rfl
   rw [e, linesOf_line hn1, List.map_cons, ih.1, List.count_append, List.count_cons, ih.2, List.count_eq_zero.2 hn1, ← h3]
   refine ⟨rfl, ?_⟩
   simp
def pcs (c : UInt8) : List UInt8 → List (List UInt8)
 | [] => [[]]
 | x :: r => if x = c then [] :: pcs c r else match pcs c r with
   | [] => [[x]]
   | h :: t => (x :: h) :: t
theorem pcs_ne (c : UInt8) : ∀ l : List UInt8, pcs c l ≠ []
 | [] => by simp [pcs]
 | x :: r => by
  unfold pcs
  split
  · simp
  split <;> simp
theorem pcs_no {c : UInt8} : ∀ {l : List UInt8}, c ∉ l → pcs c l = [l]
 | [], _ => rfl
 | x :: r, h => by
  unfold pcs
  rw [if_neg (fun e => h (by simp [e])), pcs_no (fun e => h (by simp [e]))]
theorem pcs_cut {c : UInt8} : ∀ {a : List UInt8} (r : List UInt8), c ∉ a → pcs c (a ++ c :: r) = a :: pcs c r
 | [], r, _ => by
  show pcs c (c :: r) = _
  conv => lhs; unfold pcs
  rw [if_pos rfl]
 | x :: a, r, h => by
  show pcs c (x :: (a ++ c :: r)) = _
  conv => lhs; unfold pcs
  rw [if_neg (fun e => h (by simp [e])), pcs_cut r (fun e => h (by simp [e]))]
theorem cut_cases (c : UInt8) (l : List UInt8) : (c ∉ l ∧ Go.Lib.cut l [c] = (l, [], false)) ∨ ∃ a b, c ∉ a ∧ l = a ++ c :: b ∧ Go.Lib.cut l [c] = (a, b, true) := by
 have hi : Go.Lib.index l [c] = Go.Lib.indexByte l c := Go.Lib.index_one l c
 unfold Go.Lib.cut
 rw [hi]
 have hge := Go.Lib.indexByte_ge l c
 by_cases h : 0 ≤ Go.Lib.indexByte l c
 · right
   obtain ⟨o, ho⟩ := Int.eq_ofNat_of_zero_le h
   obtain ⟨h1, h2⟩ := Go.Lib.indexByte_some ho
   obtain ⟨hol, h1'⟩ := List.getElem?_eq_some_iff.1 h1
   refine ⟨l.take o, l.drop (o + 1), ?_, ?_, ?_⟩
   · intro hm
     obtain ⟨k, hk, e⟩ := List.getElem_of_mem hm
     have hk' : k < o := by rw [List.length_take] at hk; omega
     refine h2 k hk' ?_
     rw [List.getElem?_eq_getElem (by omega), ← e, List.getElem_take]
   · conv => lhs; rw [← List.take_append_drop o l, List.drop_eq_getElem_cons hol, h1']
   rw [if_pos h, ho]
   simp only [Int.toNat_natCast, List.length_cons, List.length_nil]
 left
 have h3 := Go.Lib.indexByte_none (l := l) (c := c) (by omega)
 refine ⟨?_, by rw [if_neg h]⟩
 intro hm
 obtain ⟨k, hk, e⟩ := List.getElem_of_mem hm
 exact h3 k (by rw [List.getElem?_eq_getElem hk, e])
theorem index_no {c : UInt8} {l : List UInt8} (h : c ∉ l) : Go.Lib.index l [c] = -1 := by
 rw [Go.Lib.index_one]
 have hge := Go.Lib.indexByte_ge l c
 by_cases h0 : 0 ≤ Go.Lib.indexByte l c
 · obtain ⟨o, ho⟩ := Int.eq_ofNat_of_zero_le h0
   obtain ⟨h1, _⟩ := Go.Lib.indexByte_some ho
   exact absurd (List.mem_of_getElem? h1) h
 omega
theorem index_at {c : UInt8} {a b : List UInt8} (h : c ∉ a) : Go.Lib.index (a ++ c :: b) [c] = (a.length : Int) := by
 rw [Go.Lib.index_one]
 induction a with
 | nil => simp [Go.Lib.indexByte]
 | cons x a ih =>
  have hx : x ≠ c := fun e => h (by simp [e])
  rw [List.cons_append]
  unfold Go.Lib.indexByte
  rw [ih (fun e => h (by simp [e]))]
  have h1 : (x == c) = false := by simpa using hx
  rw [h1]
  have h2 : ((a.length : Int) == -1) = false := by rw [beq_eq_false_iff_ne]; omega
  rw [h2]
  simp
theorem splitK_pcs (c : UInt8) : ∀ (k : Nat) (l : List UInt8), l.count c ≤ k → Go.Lib.splitK [c] 0 k l = pcs c l
 | 0, l, h => by
  have hn : c ∉ l := List.count_eq_zero.1 (by omega)
  rw [pcs_no hn]
  rfl
 | k + 1, l, h => by
  unfold Go.Lib.splitK
  rcases cut_cases c l with ⟨hn, _⟩ | ⟨a, b, hn, rfl, _⟩
  · rw [index_no hn, pcs_no hn]
    rfl
  rw [index_at hn, pcs_cut b hn]
  have h2 : ((a.length : Int) == -1) = false := by rw [beq_eq_false_iff_ne]; omega
  rw [h2]
  rw [List.count_append, List.count_cons] at h
  simp only [beq_self_eq_true, if_true] at h
  have e1 : (a ++ c :: b).take a.length = a := by simp
  have e2 : (a ++ c :: b).drop (a.length + 1) = b := by rw [List.drop_append]; simp
  simp only [Bool.false_eq_true, if_false, Int.toNat_natCast, Nat.add_zero, List.length_cons, List.length_nil, Nat.zero_add]
  rw [e1, e2, splitK_pcs c k b (by omega)]
theorem count_one (c : UInt8) : ∀ (f : Nat) (l : List UInt8), l.length < f → Go.Lib.countFrom [c] f l = l.count c
 | 0, _, h => absurd h (by omega)
 | f + 1, l, h => by
  unfold Go.Lib.countFrom
  rcases cut_cases c l with ⟨hn, _⟩ | ⟨a, b, hn, rfl, _⟩
  · rw [index_no hn, List.count_eq_zero.2 hn]
    rfl
  rw [index_at hn]
  have h2 : ((a.length : Int) == -1) = false := by rw [beq_eq_false_iff_ne]; omega
  rw [h2]
  have e2 : (a ++ c :: b).drop (a.length + 1) = b := by rw [List.drop_append]; simp
  simp only [Bool.false_eq_true, if_false, Int.toNat_natCast, List.length_cons, List.length_nil, Nat.zero_add]
  rw [e2, count_one c f b (by rw [List.length_append, List.length_cons] at h; omega), List.count_append, List.count_cons, List.count_eq_zero.2 hn]
  simp
  omega
theorem pcs_small (c : UInt8) : ∀ (l : List UInt8), ∀ x ∈ pcs c l, x.length ≤ l.length
 | [], x, h => by simp [pcs] at h; simp [h]
 | y :: r, x, h => by
  unfold pcs at h
  split at h
  · rcases List.mem_cons.1 h with rfl | h
    · exact Nat.zero_le _
    have := pcs_small c r x h; simp only [List.length_cons]; omega
  have ih := pcs_small c r
  cases hp : pcs c r with
  | nil => rw [hp] at h; simp at h; simp [h]
  | cons z t =>
   rw [hp] at h ih
   rcases List.mem_cons.1 h with rfl | h
   · have := ih z (by simp); simp only [List.length_cons]; omega
   have := ih x (by simp [h]); simp only [List.length_cons]; omega
theorem pcs_len (c : UInt8) : ∀ (l : List UInt8), (pcs c l).length ≤ l.length + 1
 | [] => by simp [pcs]
 | y :: r => by
  have ih := pcs_len c r
  unfold pcs
  split
  · simp only [List.length_cons]; omega
  cases hp : pcs c r with
  | nil => simp
  | cons z t => rw [hp] at ih; simp only [List.length_cons] at *; omega
end Go.Proofs.YtehnnlhoajdcaaaGreatDoor
namespace Go.Proofs.YtehnnlhoajdcaaaGreatDoor
open Go.RowKit TextNum
abbrev RfO (w : World) (N : Nat) (a : Option Addr) (fs : List FD) (c : Nat) : Prop := w.ownsRow N 102 2 (.slice a fs.length c) fs.length (fdc fs)
theorem RfO.fdl {w : World} {N : Nat} {a : Option Addr} {fs : List FD} {c : Nat} (h : RfO w N a fs c) : FdL w a fs c := by
 refine ⟨?_, fun i hi => ?_⟩
 · rcases h.2 with ⟨_, h0⟩ | ⟨g, cap, cur, e, _, _, hc, _⟩
   · omega
   injection e with _ _ e3
   omega
 rcases h.2 with ⟨_, h0⟩ | ⟨g, cap, cur, e, _, _, hc, _⟩
 · omega
 injection e with e1 _ e3
 subst e1 e3
 have hc := World.ownsRow.cells h rfl
 have h1 := hc (i * 2) _ (fdc_get fs hi).1
 have h2 := hc (i * 2 + 1) _ (fdc_get fs hi).2
 rw [Addr.add_lit] at h1 h2
 exact ⟨g, 0, rfl, h1, h2⟩
theorem Tryz.infoRf : (Tryz.prog.info? 102).map (fun i => (i.zero, i.size, i.bytes)) = some (some (.agg #[.string ⟨#[]⟩, .string ⟨#[]⟩]), 2, 32) := by kernel_rfl
theorem exec_idxRf {o : Oper} {ρ : Operand → Value} {x y : Operand} {w : World} {b off n c : Nat} (i : Nat) (hi : i < n) (ho : o.op = .indexAddr 54 x y) (hx : ρ x = .slice (some ⟨b, off, none⟩) n c) (hy : ρ y = .int .i64 (i : Int)) : (execOp ρ o).run Tryz.prog w = .ok (.value (.pointer (some ⟨b, off + i * 2, none⟩))) w := by
 have hi' : (i : Int) < (n : Int) := by omega
 unfold execOp
 simp only [ho, hx, hy]
 go_simp
theorem wpList_appRf {w : World} {N q : Nat} {ops : Array Oper} {rest : List Oper} {o : Oper} {a : Act} {Q : Exit → Act → World → Prop} (hgd : o.guard = none) (x y : Operand)
  (ho : o.op = .call { callee := .builtin .append, args := #[x, y], argTypes := #[54, 54] }) (ax : Option Addr) (cx : Nat) (fs : List FD) (f : FD) (hq : fs.length = q) (hx : a.eval x = .slice ax q cx) (hy : a.eval y = .slice (some ⟨w.heap.size, 0, none⟩) 1 1)
  (hR : RfO w N ax fs cx) (hNw : N ≤ w.heap.size) (hql : q ≤ 1099511627776)
  (K : ∀ ax2 cx2 w', RfO w' N ax2 (fs ++ [f]) cx2 → (∀ W, Up W w → W.heap.size ≤ N → Up W w') → w.grownBy w' (Value.slice ax q cx).ownBlock → wpList Tryz.prog ops Q rest (a.put o.dst (.slice ax2 (q + 1) cx2)) w') :
  wpList Tryz.prog ops Q (o :: rest) a (w.alloc (.cells #[.string f.n, .string f.v] 102)) := by
 subst hq
 obtain ⟨i1, hi1, hz0, hz1, hz2⟩ := info_parts Tryz.infoRf
 have HUx := (Up.refl w).alloc (.cells #[.string f.n, .string f.v] 102)
 have hnu := ow_up hR HUx
 refine wpList_append_own _ hgd x y 54 ho N 102 i1 (.agg #[.string ⟨#[]⟩, .string ⟨#[]⟩]) 2 32 Tryz.underlying54 hi1 hz0 hz1 hz2 rfl (by omega) (.slice ax fs.length cx) fs.length _ hx hnu ⟨w.heap.size, 0, none⟩ 1 1 [.string f.n, .string f.v] hy rfl ?_ ?_ (by simp only [maxLen]; omega) (by omega) (Nat.le_trans hNw HUx.size) ?_
 · intro j u hu
   rw [Addr.add_lit]
   exact At.cell (at_new w 102 [.string f.n, .string f.v]) (i := 0 + j) (by rw [Nat.zero_add]; exact hu)
 · intro u hu
   simp only [List.mem_cons, List.not_mem_nil, or_false] at hu
   rcases hu with rfl | rfl <;> rfl
 intro v8 w8 o8 g8 _
 obtain ⟨ax2, cx2, rfl⟩ : ∃ ax2 cx2, v8 = .slice ax2 (fs.length + 1) cx2 := by
  rcases o8.2 with ⟨_, h0⟩ | ⟨g, cap, cur, e1, _⟩
  · omega
  exact ⟨_, cap, e1⟩
 refine K ax2 cx2 w8 ?_ (fun W hU hW => up_grownBy (hU.trans HUx) g8 (fun k hk => Nat.le_trans hW (World.ownsRow.lt hR k hk).1)) (up_grown HUx g8)
 show w8.ownsRow N 102 2 (.slice ax2 (fs ++ [f]).length cx2) (fs ++ [f]).length (fdc (fs ++ [f]))
 rw [List.length_append, fdc_snoc]
 exact o8
def rlt (c : UInt8) : Bool := (decide (97 ≤ c.toNat) && decide (c.toNat ≤ 122)) || (decide (65 ≤ c.toNat) && decide (c.toNat ≤ 90))
def rtk : ByteArray := ⟨#[33, 35, 36, 37, 38, 39, 42, 43, 45, 46, 94, 95, 124, 126]⟩
theorem tkc_ref (x : UInt8) : tkc x = (rlt x || isD x || rtk.data.toList.contains x || x == 96) := by
 have h : ∀ n : Nat, n < 256 → tkc (UInt8.ofNat n) = (rlt (UInt8.ofNat n) || isD (UInt8.ofNat n) || rtk.data.toList.contains (UInt8.ofNat n) || UInt8.ofNat n == 96) := by decide +kernel
 have h1 := h x.toNat x.toNat_lt
 rw [UInt8.ofNat_toNat] at h1
 exact h1
set_option maxRecDepth 100000 in
theorem Rdigit_walk (c : UInt8) (w : World) : Calls Tryz.prog 93 #[vb c] w fun e w' => e = .returned (.bool (isD c)) ∧ w' = w := by
 have hc := c.toNat_lt
 by_cases hge48 : 48 ≤ c.toNat
 · have zhge48 : (48 : Int) ≤ (c.toNat : Int) := by omega
   by_cases hle57 : c.toNat ≤ 57
   · have zhle57 : (c.toNat : Int) ≤ 57 := by omega
     have e : isD c = true := by unfold isD; simp [*]
     rw [e]
     clear e
     go_enter Tryz.func93, Tryz.ntmps93
     go_wp2
     go_ret
     exact ⟨rfl, rfl⟩
   have zhle57 : ¬ (c.toNat : Int) ≤ 57 := by omega
   have e : isD c = false := by unfold isD; simp [*]
   rw [e]
   clear e
   go_enter Tryz.func93, Tryz.ntmps93
   go_wp2
   go_ret
   exact ⟨rfl, rfl⟩
 have zhge48 : ¬ (48 : Int) ≤ (c.toNat : Int) := by omega
 have e : isD c = false := by unfold isD; simp [*]
 rw [e]
 clear e
 go_enter Tryz.func93, Tryz.ntmps93
 go_wp2
 go_ret
 exact ⟨rfl, rfl⟩
set_option maxRecDepth 100000 in
theorem Rletter_walk (c : UInt8) (w : World) : Calls Tryz.prog 92 #[vb c] w fun e w' => e = .returned (.bool (rlt c)) ∧ w' = w := by
 have hc := c.toNat_lt
 by_cases hge97 : 97 ≤ c.toNat
 case' _ =>
  have zhge97 : (97 : Int) ≤ (c.toNat : Int) := by omega
  by_cases hle122 : c.toNat ≤ 122
  · have zhle122 : (c.toNat : Int) ≤ 122 := by omega
    have e : rlt c = true := by unfold rlt; simp [*]
    rw [e]
    clear e
    go_enter Tryz.func92, Tryz.ntmps92
    go_wp2
    go_ret
    exact ⟨rfl, rfl⟩
  have zhle122 : ¬ (c.toNat : Int) ≤ 122 := by omega
 rotate_left
 case' _ =>
  have zhge97 : ¬ (97 : Int) ≤ (c.toNat : Int) := by omega
 all_goals
  by_cases hge65 : 65 ≤ c.toNat
  · have zhge65 : (65 : Int) ≤ (c.toNat : Int) := by omega
    by_cases hle90 : c.toNat ≤ 90
    · have zhle90 : (c.toNat : Int) ≤ 90 := by omega
      have e : rlt c = true := by unfold rlt; simp [*]
      rw [e]
      clear e
      go_enter Tryz.func92, Tryz.ntmps92
      go_wp2
      go_ret
      exact ⟨rfl, rfl⟩
    have zhle90 : ¬ (c.toNat : Int) ≤ 90 := by omega
    have e : rlt c = false := by unfold rlt; simp [*]
    rw [e]
    clear e
    go_enter Tryz.func92, Tryz.ntmps92
    go_wp2
    go_ret
    exact ⟨rfl, rfl⟩
  have zhge65 : ¬ (65 : Int) ≤ (c.toNat : Int) := by omega
  have e : rlt c = false := by unfold rlt; simp [*]
  rw [e]
  clear e
  go_enter Tryz.func92, Tryz.ntmps92
  go_wp2
  go_ret
  exact ⟨rfl, rfl⟩
set_option maxRecDepth 100000 in
set_option maxHeartbeats 1000000 in
theorem Ramong_walk (s : ByteArray) (c : UInt8) (hs : s.size ≤ 1048576) (w : World) : Calls Tryz.prog 94 #[.string s, vb c] w fun e w' => e = .returned (.bool (s.data.toList.contains c)) ∧ w' = w := by
 have HS := Ho (show s.size = s.data.toList.length from Go.Lib.size_eq s)
 obtain ⟨r, hr⟩ := ny (s.data.toList.contains c)
 have HR := Ho hr
 rw [hr]
 clear hr
 go_enter Tryz.func94, Tryz.ntmps94
 go_wp2
 go_loopw [5] (fun v5 wr => ∃ i : Nat, v5 = .int .i64 (i : Int) ∧ i ≤ s.size ∧ Hd (wr = w ∧ c ∉ s.data.toList.take i)) (fun v5 _ => s.size - (intOf v5).toNat)
 case atStart => exact ⟨0, rfl, Nat.zero_le _, Ho ⟨rfl, by simp⟩⟩
 case round =>
  obtain ⟨i, rfl, hi, hU⟩ := hrel
  have HU := Ho hU.o
  clear hU
  by_cases hil : i < s.size
  · have hilz : (i : Int) < (s.size : Int) := by omega
    have hg := sget' s i hil
    have hii : i < s.data.toList.length := by rw [← HS.o]; exact hil
    have HQ := Ho (List.take_succ_eq_append_getElem hii)
    have HM := Ho (List.getElem_mem hii)
    generalize s.data.toList[i]'hii = x at *
    clear hii
    cases hx : ((x.toNat : Int) == (c.toNat : Int)) with
    | true =>
     have HE := Ho (show r = true by
      have h1 : x.toNat = c.toNat := by have := eq_of_beq hx; omega
      rw [← HR.o, ← UInt8.toNat_inj.1 h1]
      exact List.contains_iff_mem.2 HM.o)
     go_wp2
     go_ret
     rw [HE.o]
     exact ⟨rfl, HU.o.1⟩
    | false =>
     have HN := Ho (show c ∉ s.data.toList.take (i + 1) by
      rw [HQ.o, List.mem_append, List.mem_singleton]
      rintro (h | h)
      · exact HU.o.2 h
      rw [h] at hx; simp at hx)
     go_wp2
     go_roundw
     all_goals first
      | exact ⟨i + 1, by go_num, by omega, Ho ⟨HU.o.1, HN.o⟩⟩
      | (simp [intOf]; omega)
  have hilz : ¬ (i : Int) < (s.size : Int) := by omega
  have HE := Ho (show r = false by
   have h1 := HU.o.2
   rw [List.take_of_length_le (by rw [← HS.o]; omega)] at h1
   rw [← HR.o, Bool.eq_false_iff]
   intro h
   exact h1 (List.contains_iff_mem.1 h))
  go_wp2
  go_ret
  rw [HE.o]
  exact ⟨rfl, HU.o.1⟩
set_option maxRecDepth 100000 in
set_option maxHeartbeats 1000000 in
theorem Rvisible_walk (s : ByteArray) (hs : s.size ≤ 1099511627776) (w : World) : Calls Tryz.prog 47 #[.string s] w fun e w' => e = .returned (.bool (tgt s.data.toList)) ∧ Up w w' := by
 have HS := Ho (show s.size = s.data.toList.length from Go.Lib.size_eq s)
 obtain ⟨r, hr⟩ := ny (tgt s.data.toList)
 have HR := Ho hr
 rw [hr]
 clear hr
 go_enter Tryz.func47, Tryz.ntmps47
 go_wp2
 go_loopw [3] (fun v3 wr => ∃ i : Nat, v3 = .int .i64 (i : Int) ∧ i ≤ s.size ∧ Hd (Up w wr ∧ (s.data.toList.take i).all vis = true)) (fun v3 _ => s.size - (intOf v3).toNat)
 case atStart => exact ⟨0, rfl, Nat.zero_le _, Ho ⟨Up.refl _, rfl⟩⟩
 case round =>
  obtain ⟨i, rfl, hi, hU⟩ := hrel
  have HU := Ho hU.o
  clear hU
  by_cases hil : i < s.size
  · have hilz : (i : Int) < (s.size : Int) := by omega
    have hg := sget' s i hil
    have HQ := Ho (vis_take (l := s.data.toList) (i := i) (by rw [← HS.o]; exact hil))
    have HF := Ho (show ∀ x, s.data.toList[i]'(by rw [← HS.o]; exact hil) = x → vis x = false → r = false from fun x hx hb => by
     rw [← HR.o]
     unfold tgt
     have : s.data.toList.all vis = false := List.all_eq_false.2 ⟨_, List.getElem_mem (by rw [← HS.o]; exact hil), by rw [hx, hb]; simp⟩
     rw [this]; simp)
    generalize s.data.toList[i]'(by rw [← HS.o]; exact hil) = x at *
    replace HF := Ho (HF.o x rfl)
    have hx := x.toNat_lt
    by_cases h1 : x.toNat < 33
    · have z1 : (x.toNat : Int) < 33 := by omega
      have HE := Ho (HF.o (show vis x = false by unfold vis; rw [decide_eq_false (show ¬ 32 < x.toNat by omega)]; rfl))
      go_wp2
      go_ret
      rw [HE.o]
      exact ⟨rfl, HU.o.1⟩
    have z1 : ¬ (x.toNat : Int) < 33 := by omega
    by_cases h2 : 126 < x.toNat
    · have z2 : (126 : Int) < (x.toNat : Int) := by omega
      have HE := Ho (HF.o (show vis x = false by unfold vis; rw [decide_eq_false (show ¬ x.toNat < 127 by omega), Bool.and_false]))
      go_wp2
      go_ret
      rw [HE.o]
      exact ⟨rfl, HU.o.1⟩
    have z2 : ¬ (126 : Int) < (x.toNat : Int) := by omega
    have HY := Ho (show vis x = true by unfold vis; rw [decide_eq_true (show 32 < x.toNat by omega), decide_eq_true (show x.toNat < 127 by omega)]; rfl)
    go_wp2
    go_roundw
    all_goals first
     | exact ⟨i + 1, by go_num, by omega, Ho ⟨HU.o.1, by rw [HQ.o, HU.o.2, HY.o]; rfl⟩⟩
     | (simp [intOf]; omega)
  have hilz : ¬ (i : Int) < (s.size : Int) := by omega
  have hal : s.data.toList.all vis = true := by
   have h1 := HU.o.2
   rw [List.take_of_length_le (by rw [← HS.o]; omega)] at h1
   exact h1
  have HT := Ho (show r = !(s.toList.isEmpty) by
   rw [← HR.o, Go.Lib.toList_data]
   unfold tgt
   rw [hal]
   simp)
  clear hal
  cases hb : s.toList.isEmpty with
  | true =>
   rw [hb] at HT
   go_wp2
   go_ret
   rw [HT.o]
   exact ⟨rfl, HU.o.1⟩
  | false =>
   rw [hb] at HT
   go_wp2
   go_ret
   rw [HT.o]
   exact ⟨rfl, HU.o.1⟩
set_option maxRecDepth 100000 in
set_option maxHeartbeats 1000000 in
theorem Rvalued_walk (s : ByteArray) (hs : s.size ≤ 1099511627776) (w : World) : Calls Tryz.prog 95 #[.string s] w fun e w' => e = .returned (.bool (vlu s.data.toList)) ∧ Up w w' := by
 have HS := Ho (show s.size = s.data.toList.length from Go.Lib.size_eq s)
 obtain ⟨r, hr⟩ := ny (vlu s.data.toList)
 have HR := Ho hr
 rw [hr]
 clear hr
 go_enter Tryz.func95, Tryz.ntmps95
 go_wp2
 go_loopw [3] (fun v3 wr => ∃ i : Nat, v3 = .int .i64 (i : Int) ∧ i ≤ s.size ∧ Hd (Up w wr ∧ (s.data.toList.take i).all vlc = true)) (fun v3 _ => s.size - (intOf v3).toNat)
 case atStart => exact ⟨0, rfl, Nat.zero_le _, Ho ⟨Up.refl _, rfl⟩⟩
 case round =>
  obtain ⟨i, rfl, hi, hU⟩ := hrel
  have HU := Ho hU.o
  clear hU
  by_cases hil : i < s.size
  · have hilz : (i : Int) < (s.size : Int) := by omega
    have hg := sget' s i hil
    have HQ := Ho (vlc_take (l := s.data.toList) (i := i) (by rw [← HS.o]; exact hil))
    have HF := Ho (show ∀ x, s.data.toList[i]'(by rw [← HS.o]; exact hil) = x → vlc x = false → r = false from fun x hx hb => by
     rw [← HR.o]
     unfold vlu
     have : s.data.toList.all vlc = false := List.all_eq_false.2 ⟨_, List.getElem_mem (by rw [← HS.o]; exact hil), by rw [hx, hb]; simp⟩
     rw [this])
    generalize s.data.toList[i]'(by rw [← HS.o]; exact hil) = x at *
    replace HF := Ho (HF.o x rfl)
    have hx := x.toNat_lt
    by_cases h1 : x.toNat = 9
    · have z1 : ((x.toNat : Int) != 9) = false := by rw [h1]; rfl
      have h1b : x = 9 := UInt8.toNat_inj.1 h1
      have HY := Ho (show vlc x = true by rw [h1b]; decide)
      clear h1b h1
      go_wp2
      go_roundw
      all_goals first
       | exact ⟨i + 1, by go_num, by omega, Ho ⟨HU.o.1, by rw [HQ.o, HU.o.2, HY.o]; rfl⟩⟩
       | (simp [intOf]; omega)
    have z1 : ((x.toNat : Int) != 9) = true := by rw [bne_iff_ne]; omega
    have h1b : (x == 9) = false := by rw [beq_eq_false_iff_ne]; intro e; apply h1; rw [e]; rfl
    by_cases h2 : x.toNat < 32
    · have z2 : (x.toNat : Int) < 32 := by omega
      have HE := Ho (HF.o (show vlc x = false by unfold vlc ctl; rw [h1b, decide_eq_true h2]; rfl))
      go_wp2
      go_ret
      rw [HE.o]
      exact ⟨rfl, HU.o.1⟩
    have z2 : ¬ (x.toNat : Int) < 32 := by omega
    by_cases h3 : x.toNat = 127
    · have z3 : ((x.toNat : Int) == 127) = true := by rw [h3]; rfl
      have HE := Ho (HF.o (show vlc x = false by unfold vlc ctl; rw [h1b, decide_eq_true h3, Bool.or_true]; rfl))
      go_wp2
      go_ret
      rw [HE.o]
      exact ⟨rfl, HU.o.1⟩
    have z3 : ((x.toNat : Int) == 127) = false := by rw [beq_eq_false_iff_ne]; omega
    have HY := Ho (show vlc x = true by unfold vlc ctl; rw [decide_eq_false h2, decide_eq_false h3]; rfl)
    go_wp2
    go_roundw
    all_goals first
     | exact ⟨i + 1, by go_num, by omega, Ho ⟨HU.o.1, by rw [HQ.o, HU.o.2, HY.o]; rfl⟩⟩
     | (simp [intOf]; omega)
  have hilz : ¬ (i : Int) < (s.size : Int) := by omega
  have hal : s.data.toList.all vlc = true := by
   have h1 := HU.o.2
   rw [List.take_of_length_le (by rw [← HS.o]; omega)] at h1
   exact h1
  have HT := Ho (show r = true by
   rw [← HR.o]
   unfold vlu
   exact hal)
  clear hal
  go_wp2
  go_ret
  rw [HT.o]
  exact ⟨rfl, HU.o.1⟩
set_option maxRecDepth 100000 in
set_option maxHeartbeats 1000000 in
theorem Rtoken_walk (s : ByteArray) (hs : s.size ≤ 1099511627776) (w : World) : Calls Tryz.prog 46 #[.string s] w fun e w' => e = .returned (.bool (tok s.data.toList)) ∧ Up w w' := by
 have HS := Ho (show s.size = s.data.toList.length from Go.Lib.size_eq s)
 obtain ⟨r, hr⟩ := ny (tok s.data.toList)
 have HR := Ho hr
 rw [hr]
 clear hr
 go_enter Tryz.func46, Tryz.ntmps46
 go_wp2
 go_loopw [3] (fun v3 wr => ∃ i : Nat, v3 = .int .i64 (i : Int) ∧ i ≤ s.size ∧ Hd (Up w wr ∧ (s.data.toList.take i).all tkc = true)) (fun v3 _ => s.size - (intOf v3).toNat)
 case atStart => exact ⟨0, rfl, Nat.zero_le _, Ho ⟨Up.refl _, rfl⟩⟩
 case round =>
  obtain ⟨i, rfl, hi, hU⟩ := hrel
  have HU := Ho hU.o
  clear hU
  by_cases hil : i < s.size
  · have hilz : (i : Int) < (s.size : Int) := by omega
    have hg := sget' s i hil
    have HQ := Ho (tkc_take (l := s.data.toList) (i := i) (by rw [← HS.o]; exact hil))
    have HF := Ho (show ∀ x, s.data.toList[i]'(by rw [← HS.o]; exact hil) = x → tkc x = false → r = false from fun x hx hb => by
     rw [← HR.o]
     unfold tok
     have : s.data.toList.all tkc = false := List.all_eq_false.2 ⟨_, List.getElem_mem (by rw [← HS.o]; exact hil), by rw [hx, hb]; simp⟩
     rw [this]; simp)
    generalize s.data.toList[i]'(by rw [← HS.o]; exact hil) = x at *
    replace HF := Ho (HF.o x rfl)
    go_wp2_with fail
    refine (Rletter_walk x wr).mono ?_
    rintro e w9 ⟨rfl, h9⟩
    obtain rfl := h9.symm
    clear h9
    dsimp only
    cases h1 : rlt x with
    | true =>
     have HY := Ho (show tkc x = true by rw [tkc_ref, h1]; rfl)
     go_wp2
     go_roundw
     all_goals first
      | exact ⟨i + 1, by go_num, by omega, Ho ⟨HU.o.1, by rw [HQ.o, HU.o.2, HY.o]; rfl⟩⟩
      | (simp [intOf]; omega)
    | false =>
     go_wp2_with fail
     refine (Rdigit_walk x wr).mono ?_
     rintro e w9 ⟨rfl, h9⟩
     obtain rfl := h9.symm
     clear h9
     dsimp only
     cases h2 : isD x with
     | true =>
      have HY := Ho (show tkc x = true by rw [tkc_ref, h1, h2]; rfl)
      go_wp2
      go_roundw
      all_goals first
       | exact ⟨i + 1, by go_num, by omega, Ho ⟨HU.o.1, by rw [HQ.o, HU.o.2, HY.o]; rfl⟩⟩
       | (simp [intOf]; omega)
     | false =>
      go_wp2_with fail
      refine (Ramong_walk rtk x (by decide) wr).mono ?_
      rintro e w9 ⟨rfl, h9⟩
      obtain rfl := h9.symm
      clear h9
      dsimp only
      cases h3 : rtk.data.toList.contains x with
      | true =>
       have HY := Ho (show tkc x = true by rw [tkc_ref, h1, h2, h3]; rfl)
       go_wp2
       go_roundw
       all_goals first
        | exact ⟨i + 1, by go_num, by omega, Ho ⟨HU.o.1, by rw [HQ.o, HU.o.2, HY.o]; rfl⟩⟩
        | (simp [intOf]; omega)
      | false =>
       cases h4 : ((x.toNat : Int) == 96) with
       | true =>
        have z4 : ((x.toNat : Int) != 96) = false := by rw [bne, h4]; rfl
        have h5 : (x == 96) = true := by
         have h6 : x.toNat = 96 := by have := eq_of_beq h4; omega
         rw [beq_iff_eq]
         exact UInt8.toNat_inj.1 h6
        clear h4
        have HY := Ho (show tkc x = true by rw [tkc_ref, h1, h2, h3, h5]; rfl)
        go_wp2
        go_roundw
        all_goals first
         | exact ⟨i + 1, by go_num, by omega, Ho ⟨HU.o.1, by rw [HQ.o, HU.o.2, HY.o]; rfl⟩⟩
         | (simp [intOf]; omega)
       | false =>
        have z4 : ((x.toNat : Int) != 96) = true := by rw [bne, h4]; rfl
        have h5 : (x == 96) = false := by
         rw [beq_eq_false_iff_ne]
         intro e
         rw [e] at h4
         exact absurd h4 (by decide)
        clear h4
        have HE := Ho (HF.o (show tkc x = false by rw [tkc_ref, h1, h2, h3, h5]; rfl))
        go_wp2
        go_ret
        rw [HE.o]
        exact ⟨rfl, HU.o.1⟩
  have hilz : ¬ (i : Int) < (s.size : Int) := by omega
  have hal : s.data.toList.all tkc = true := by
   have h1 := HU.o.2
   rw [List.take_of_length_le (by rw [← HS.o]; omega)] at h1
   exact h1
  have HT := Ho (show r = !(s.toList.isEmpty) by
   rw [← HR.o, Go.Lib.toList_data]
   unfold tok
   rw [hal]
   simp)
  clear hal
  cases hb : s.toList.isEmpty with
  | true =>
   rw [hb] at HT
   go_wp2
   go_ret
   rw [HT.o]
   exact ⟨rfl, HU.o.1⟩
  | false =>
   rw [hb] at HT
   go_wp2
   go_ret
   rw [HT.o]
   exact ⟨rfl, HU.o.1⟩
end Go.Proofs.YtehnnlhoajdcaaaGreatDoor
namespace Go.Proofs.YtehnnlhoajdcaaaGreatDoor
open Go.RowKit Go.Shelf TextNum
set_option maxRecDepth 100000 in
set_option maxHeartbeats 1000000 in
theorem RheadBytes_walk (a : Option Addr) (fs : List FD) (c : Nat) (w : World) (h : FdL w a fs c) (hl : szs fs ≤ 1099511627776) :
  Calls Tryz.prog 45 #[.slice a fs.length c] w fun e w' => e = .returned (.int .i64 ((szs fs : Nat) : Int)) ∧ Up w w' := by
 have HF := Ho h
 have hcap := h.cap
 have hsl := szs_len fs
 have HT := Ho (fun i => szs_take fs i)
 clear h
 obtain ⟨z, hz⟩ := ny (szs fs)
 have HZ := Ho hz
 rw [hz] at hl hsl HT ⊢
 clear hz
 go_enter Tryz.func45, Tryz.ntmps45
 go_wp2
 go_loopw [3, 4] (fun v3 v4 wr => ∃ i k : Nat, v4 = .int .i64 (i : Int) ∧ v3 = .int .i64 (k : Int) ∧ i ≤ fs.length ∧ k ≤ z ∧ Hd (Up w wr ∧ szs (fs.take i) = k)) (fun _ v4 _ => fs.length - (intOf v4).toNat)
 case atStart => exact ⟨0, 2, rfl, rfl, Nat.zero_le _, by omega, Ho ⟨Up.refl _, rfl⟩⟩
 case round =>
  obtain ⟨i, k, rfl, rfl, hi, hkz, hU⟩ := hrel
  have HU := Ho hU.o
  clear hU
  by_cases hil : i < fs.length
  · have hilz : (i : Int) < (fs.length : Int) := by omega
    obtain ⟨b, off, rfl, k1, k2⟩ := HF.o.cells i hil
    have hT := List.take_succ_eq_append_getElem hil
    obtain ⟨f, hf⟩ := ny (fs[i])
    rw [hf] at k1 k2 hT
    have HK1 := Ho k1
    have HK2 := Ho k2
    have h5 := HT.o (i + 1)
    rw [hT, szs_snoc, HU.o.2] at h5
    have HS2 := Ho (show szs (fs.take (i + 1)) = k + szf f by rw [hT, szs_snoc, HU.o.2])
    have HZf := Ho (show szf f = f.n.size + f.v.size + 4 from rfl)
    have h6 : k + f.n.size + f.v.size + 4 ≤ z := by have := HZf.o; omega
    clear hf k1 k2 hT
    go_wp2
    refine wp_region_held_drew (S := fun w2 => Up w w2) (by kernel_rfl) HU.o.1.drew (fun hS => ?_)
    refine tN 0 (some 11) (.move (.tmp 3)) 3 (.int .i64 (k : Int)) hS ?_
    simp only [Act.put, pB, pC, pD]
    refine tN 1 (some 12) (.move (.tmp 0)) 54 (.slice (some ⟨b, off, none⟩) fs.length c) hS ?_
    simp only [pA, pB, pC, pD]
    refine tN 2 (some 13) (.move (.tmp 4)) 3 (.int .i64 (i : Int)) hS ?_
    simp only [pA, pB, pC, pD]
    refine tK 3 (some 14) (.indexAddr 54 (.tmp 12) (.tmp 13)) 0 (.pointer (some ⟨b, off + i * 2, none⟩)) hS ?_ ?_
    · intro _ _ w5 hSw
      clear hSw hS
      exact exec_idxRf i hil rfl rfl rfl
    simp only [pA, pB, pC, pD]
    refine tN 4 (some 15) (.fieldAddr 102 (.tmp 14) 0) 0 (.pointer (some ⟨b, off + i * 2, none⟩)) hS ?_
    simp only [pA, pB, pC, pD]
    refine tK 5 (some 16) (.load 9 (.tmp 15)) 9 (.string f.n) hS ?_ ?_
    · intro _ _ w5 hSw
      have h0 := hSw.cell HK1.o
      clear hSw hS
      go_simp
    simp only [pA, pB, pC, pD]
    refine tN 6 (some 17) (.call ⟨.builtin .len, #[.tmp 16], #[9]⟩) 3 (.int .i64 (f.n.size : Int)) hS ?_
    simp only [pA, pB, pC, pD]
    refine tK 7 (some 18) (.binOp .add 3 (.tmp 11) (.tmp 17) 3) 3 (.int .i64 ((k : Int) + (f.n.size : Int))) hS ?_ ?_
    · intro _ _ w5 hSw
      clear hSw hS
      go_simp
      rw [IntKind.wrap_i64]
      omega
    simp only [pA, pB, pC, pD]
    refine tN 8 (some 19) (.move (.tmp 0)) 54 (.slice (some ⟨b, off, none⟩) fs.length c) hS ?_
    simp only [pA, pB, pC, pD]
    refine tN 9 (some 20) (.move (.tmp 4)) 3 (.int .i64 (i : Int)) hS ?_
    simp only [pA, pB, pC, pD]
    refine tK 10 (some 21) (.indexAddr 54 (.tmp 19) (.tmp 20)) 0 (.pointer (some ⟨b, off + i * 2, none⟩)) hS ?_ ?_
    · intro _ _ w5 hSw
      clear hSw hS
      exact exec_idxRf i hil rfl rfl rfl
    simp only [pA, pB, pC, pD]
    refine tN 11 (some 22) (.fieldAddr 102 (.tmp 21) 1) 0 (.pointer (some ⟨b, off + i * 2 + 1, none⟩)) hS ?_
    simp only [pA, pB, pC, pD]
    refine tK 12 (some 23) (.load 9 (.tmp 22)) 9 (.string f.v) hS ?_ ?_
    · intro _ _ w5 hSw
      have h0 := hSw.cell HK2.o
      clear hSw hS
      go_simp
    simp only [pA, pB, pC, pD]
    refine tN 13 (some 24) (.call ⟨.builtin .len, #[.tmp 23], #[9]⟩) 3 (.int .i64 (f.v.size : Int)) hS ?_
    simp only [pA, pB, pC, pD]
    refine tK 14 (some 25) (.binOp .add 3 (.tmp 18) (.tmp 24) 3) 3 (.int .i64 ((k : Int) + (f.n.size : Int) + (f.v.size : Int))) hS ?_ ?_
    · intro _ _ w5 hSw
      clear hSw hS
      go_simp
      rw [IntKind.wrap_i64]
      omega
    simp only [pA, pB, pC, pD]
    refine tK 15 (some 26) (.binOp .add 3 (.tmp 25) (.const (.int .i64 4)) 3) 3 (.int .i64 ((k + szf f : Nat) : Int)) hS ?_ ?_
    · intro _ _ w5 hSw
      clear hSw hS
      have hzf := HZf.o
      go_simp
      rw [IntKind.wrap_i64]
      all_goals omega
    simp only [pA, pB, pC, pD]
    refine tN 16 (some 3) (.assign (.tmp 26)) 3 (.int .i64 ((k + szf f : Nat) : Int)) hS ?_
    simp only [pA, pB, pC, pD]
    clear hS
    refine wpAnyH_done (by kernel_rfl) ?_ _
    go_wp2
    go_roundw
    all_goals first
     | exact ⟨i + 1, k + szf f, by go_num, rfl, by omega, h5, Ho ⟨HU.o.1.drew, HS2.o⟩⟩
     | (simp [intOf]; omega)
  have hilz : ¬ (i : Int) < (fs.length : Int) := by omega
  have HE := Ho (show k = z by rw [← HU.o.2, List.take_of_length_le (by omega)]; exact HZ.o)
  go_wp2
  go_ret
  rw [HE.o]
  exact ⟨rfl, HU.o.1⟩
def ckN : Option Nat → Int
 | none => 0
 | some k => nums k
set_option maxRecDepth 100000 in
set_option maxHeartbeats 1000000 in
theorem Rchecked_walk (a : Option Addr) (fs : List FD) (c : Nat) (w : World) (h : FdL w a fs c) (hl : szs fs ≤ 1099511627776) :
  Calls Tryz.prog 49 #[.slice a fs.length c] w fun e w' => e = .returned (.int .i64 (ckN (ckf fs))) ∧ Up w w' := by
 have HF := Ho h
 have hcap := h.cap
 have hsl := szs_len fs
 have HM := Ho (fun (f : FD) (hf : f ∈ fs) => show f.n.size ≤ 1099511627776 ∧ f.v.size ≤ 1099511627776 from by have := szs_mem fs hf; omega)
 clear h
 obtain ⟨rv, hrv⟩ := ny (ckN (ckf fs))
 have HR := Ho hrv
 rw [hrv]
 clear hrv
 go_enter Tryz.func49, Tryz.ntmps49
 by_cases h64 : 64 < fs.length
 · have h64z : (64 : Int) < (fs.length : Int) := by omega
   have HE := Ho (show rv = 2 by rw [← HR.o]; unfold ckf; rw [if_pos h64]; rfl)
   go_wp2
   go_ret
   rw [HE.o]
   exact ⟨rfl, Up.refl _⟩
 have h64z : ¬ (64 : Int) < (fs.length : Int) := by omega
 go_wp2
 go_loopw [3] (fun v3 wr => ∃ i : Nat, v3 = .int .i64 (i : Int) ∧ i ≤ fs.length ∧ Hd (Up w wr ∧ (fs.take i).all mbf = true)) (fun v3 _ => fs.length - (intOf v3).toNat)
 case atStart => exact ⟨0, rfl, Nat.zero_le _, Ho ⟨Up.refl _, rfl⟩⟩
 case round =>
  obtain ⟨i, rfl, hi, hU⟩ := hrel
  have HU := Ho hU.o
  clear hU
  by_cases hil : i < fs.length
  · have hilz : (i : Int) < (fs.length : Int) := by omega
    obtain ⟨b, off, rfl, k1, k2⟩ := HF.o.cells i hil
    have HT := Ho (show (fs.take (i + 1)).all mbf = ((fs.take i).all mbf && mbf fs[i]) by rw [List.take_succ_eq_append_getElem hil, List.all_append]; simp)
    have hmm := HM.o _ (List.getElem_mem hil)
    have HFl := Ho (show mbf fs[i] = false → rv = 143 from fun hb => by
     rw [← HR.o]
     unfold ckf
     have : fs.all mbf = false := List.all_eq_false.2 ⟨_, List.getElem_mem hil, by rw [hb]; simp⟩
     rw [if_neg h64, this]
     rfl)
    generalize fs[i] = f at *
    obtain ⟨hfn, hfv⟩ := hmm
    have HMb := Ho (show mbf f = (tok f.n.data.toList && vlu f.v.data.toList) from rfl)
    have HK1 := Ho k1
    have HK2 := Ho k2
    clear k1 k2
    have c1 := HU.o.1.cell HK1.o
    go_wp2_with (with_reducible refine sI 54 ?_)
    show wpList _ _ _ _ _ _
    refine wpList_val7 (.pointer (some ⟨b, off + i * 2, none⟩)) rfl (exec_idxRf i hil rfl rfl rfl) ?_
    simp only [Act.put, pB, pC, pD]
    go_wp2_with fail
    refine (Rtoken_walk f.n hfn wr).mono ?_
    rintro e w2 ⟨rfl, h9⟩
    have HU2 := Ho (HU.o.1.trans h9)
    clear h9 c1
    dsimp only
    cases ht : tok f.n.data.toList with
    | false =>
     have HE := Ho (HFl.o (by rw [HMb.o, ht]; rfl))
     go_wp2
     go_ret
     rw [HE.o]
     exact ⟨rfl, HU2.o⟩
    | true =>
     have c2 := HU2.o.cell HK2.o
     go_wp2_with (with_reducible refine sI 54 ?_)
     show wpList _ _ _ _ _ _
     refine wpList_valG (.pointer (some ⟨b, off + i * 2, none⟩)) (by kernel_rfl) (exec_idxRf i hil rfl rfl rfl) ?_
     simp only [Act.put, pB, pC, pD]
     go_wp2_with fail
     refine (Rvalued_walk f.v hfv w2).mono ?_
     rintro e w3 ⟨rfl, h9⟩
     have HU3 := Ho (HU2.o.trans h9)
     clear h9 c2
     dsimp only
     cases hv : vlu f.v.data.toList with
     | false =>
      have HE := Ho (HFl.o (by rw [HMb.o, ht, hv]; rfl))
      go_wp2
      go_ret
      rw [HE.o]
      exact ⟨rfl, HU3.o⟩
     | true =>
      have HY := Ho (show (fs.take (i + 1)).all mbf = true by rw [HT.o, HU.o.2, HMb.o, ht, hv]; rfl)
      go_wp2
      go_roundw
      all_goals first
       | exact ⟨i + 1, by go_num, by omega, Ho ⟨HU3.o, HY.o⟩⟩
       | (simp [intOf]; omega)
  have hilz : ¬ (i : Int) < (fs.length : Int) := by omega
  have HE := Ho (show rv = 0 by
   have h1 := HU.o.2
   rw [List.take_of_length_le (by omega)] at h1
   rw [← HR.o]
   unfold ckf
   rw [if_neg h64, h1]
   rfl)
  go_wp2
  go_ret
  rw [HE.o]
  exact ⟨rfl, HU.o.1⟩
end Go.Proofs.YtehnnlhoajdcaaaGreatDoor
namespace Go.Proofs.YtehnnlhoajdcaaaGreatDoor
open Go.RowKit TextNum
def JF (M m : Nat) (back : List UInt8) : Prop := (back ≠ [] ∧ m = 0 ∧ Go.Lib.decDigits M = back.reverse) ∨ ((back = [] ∨ m ≠ 0) ∧ Go.Lib.decDigits M = Go.Lib.decDigits m ++ back.reverse)
theorem JF.step {M m : Nat} {back : List UInt8} (h : JF M m back) (hb : back = [] ∨ m ≠ 0) : JF M (m / 10) (back ++ [UInt8.ofNat (48 + m % 10)]) := by
 rcases h with ⟨h1, h2, _⟩ | ⟨_, h⟩
 · rcases hb with hb | hb
   · exact absurd hb h1
   exact absurd h2 hb
 by_cases hm : m < 10
 · refine .inl ⟨by simp, by omega, ?_⟩
   rw [h, Go.Lib.decDigits_one hm, Nat.mod_eq_of_lt hm]; simp
 refine .inr ⟨.inr (by omega), ?_⟩
 rw [h, Go.Lib.decDigits, dif_neg hm]; simp
theorem JF.len {M m : Nat} {back : List UInt8} (h : JF M m back) : back.length ≤ (Go.Lib.decDigits M).length := by
 rcases h with ⟨_, _, h⟩ | ⟨_, h⟩ <;> rw [h] <;> simp
theorem JF.end' {M : Nat} {back : List UInt8} (h : JF M 0 back) (hb : back ≠ []) : Go.Lib.decDigits M = back.reverse := by
 rcases h with ⟨_, _, h⟩ | ⟨h1, _⟩
 · exact h
 rcases h1 with h1 | h1
 · exact absurd h1 hb
 exact absurd rfl h1
theorem dig_len {M : Nat} (h : M ≤ 9223372036854775808) : (Go.Lib.decDigits M).length ≤ 20 := by
 rcases Nat.lt_or_ge M 9223372036854775808 with h1 | h1
 · have := (itoa_len (M : Int) (by omega) (by omega)).1
   rw [itoa_nat] at this; exact this
 obtain rfl : M = 9223372036854775808 := by omega
 have := (itoa_len (-9223372036854775808) (by omega) (by omega)).1
 simp [Go.Lib.itoa] at this; omega
theorem rev_take {l : List UInt8} {i : Nat} (h : i < l.length) : (l.drop (i + 1)).reverse ++ [l[i]] = (l.drop i).reverse := by
 rw [List.drop_eq_getElem_cons h, List.reverse_cons]
theorem dig_toNat' {d : Nat} (h : d < 10) : (UInt8.ofNat (48 + d)).toNat = 48 + d := by
 rw [UInt8.toNat_ofNat', Nat.mod_eq_of_lt (by omega)]
def lnV : Value → Nat
 | .slice _ n _ => n
 | _ => 0
set_option maxRecDepth 100000 in
set_option maxHeartbeats 2000000 in
theorem RFormatNumber_walk (n : Int) (h0 : -9223372036854775808 ≤ n) (h1 : n ≤ 9223372036854775807) (w : World) :
  Calls Tryz.prog 44 #[.int .i64 n] w fun e w' => e = .returned (vs (Go.Lib.itoa n)) ∧ Up w w' := by
 obtain ⟨M, hM⟩ := ny (n.natAbs : Nat)
 have HE := Ho (show Go.Lib.itoa n = (if n < 0 then [45] else []) ++ Go.Lib.decDigits M by
  rcases Int.lt_or_le n 0 with h | h
  · rw [if_pos h]
    unfold Go.Lib.itoa
    rw [if_pos h, ← hM]
    rfl
  rw [if_neg (by omega)]
  have e : n = (M : Int) := by omega
  rw [e, itoa_nat]
  rfl)
 have hMb : M ≤ 9223372036854775808 := by omega
 have HM := Ho hM
 clear hM
 go_enter Tryz.func44, Tryz.ntmps44
 obtain ⟨z0, hz0⟩ : ∃ z0 : Int, z0 = -(M : Int) := ⟨_, rfl⟩
 have hzb : -9223372036854775808 ≤ z0 ∧ z0 ≤ 0 := by omega
 have HZ0 := Ho hz0
 by_cases hn : 0 < n
 · have hng : -n = z0 := by have := HM.o; omega
   clear hz0
   go_wp2
   clear hng
   go_loopw [3, 4] (fun v3 v4 wr => ∃ (z : Int) (m q : Nat) (a4 : Option Addr) (c4 : Nat), v3 = .int .i64 z ∧ -9223372036854775808 ≤ z ∧ z ≤ 0 ∧ v4 = .slice a4 q c4 ∧ q ≤ 20 ∧ Hd (z = -(m : Int)) ∧ Hd (∃ back : List UInt8, back.length = q ∧ JF M m back ∧ wr.ownsRow w.heap.size 5 1 (.slice a4 q c4) q (cb back) ∧ Up w wr)) (fun v3 v4 _ => 2 * (intOf v3).natAbs + (1 - lnV v4))
   case atStart => exact ⟨z0, M, 0, none, 0, rfl, hzb.1, hzb.2, rfl, by omega, HZ0, Ho ⟨[], rfl, .inr ⟨.inl rfl, by simp⟩, World.ownsRow_nil _ _ _ _, Up.refl _⟩⟩
   case round =>
    obtain ⟨z, m, q, a4, c4, rfl, hz0, hz1, rfl, hq20, hzm, hI⟩ := hrel
    obtain ⟨back, hbl, hJ, hO, hU⟩ := hI.o
    have HBl := Ho hbl
    have HJ := Ho hJ
    have HO := Ho hO
    have HU := Ho hU
    clear hI hbl hJ hO hU
    by_cases hx : q = 0 ∨ m ≠ 0
    · have hd : m % 10 < 10 := Nat.mod_lt _ (by decide)
      have hr : z.tmod 10 = -((m % 10 : Nat) : Int) := by rw [hzm.o, Int.neg_tmod, Int.tmod_eq_emod_of_nonneg (by omega)]; rfl
      have hq : z.tdiv 10 = -((m / 10 : Nat) : Int) := by rw [hzm.o, Int.neg_tdiv, Int.tdiv_eq_ediv_of_nonneg (by omega)]; rfl
      have HS := Ho (HJ.o.step (by
       rcases hx with h | h
       · exact .inl (List.eq_nil_of_length_eq_zero (by rw [HBl.o]; exact h))
       exact .inr h))
      have HS20 := Ho (show (back ++ [UInt8.ofNat (48 + m % 10)]).length ≤ 20 from Nat.le_trans HS.o.len (dig_len hMb))
      have HW := Ho (show (q = 0 → 2 * (m / 10) < 2 * m + 1) ∧ (q ≠ 0 → 2 * (m / 10) < 2 * m) from ⟨fun _ => by omega, fun hb => by
       rcases hx with h | h
       · exact absurd h hb
       omega⟩)
      have HMZ := Ho (show z.natAbs = m by have := hzm.o; omega)
      have hzb2 : (m / 10 : Nat) ≤ 922337203685477580 := by have := hzm.o; omega
      obtain ⟨x, hxx⟩ : ∃ x : UInt8, x = UInt8.ofNat (48 + m % 10) := ⟨_, rfl⟩
      have hxn : 48 + ((m % 10 : Nat) : Int) = (x.toNat : Int) := by rw [hxx, dig_toNat' hd]; omega
      rw [← hxx] at HS HS20
      clear hxx
      have hxl : x.toNat < 256 := x.toNat_lt
      have hcond : ((q : Int) == 0) = true ∨ (((q : Int) == 0) = false ∧ (z != 0) = true) := by
       by_cases hb : q = 0
       · left; rw [hb]; rfl
       right
       have hm := hx.resolve_left hb
       have := hzm.o
       refine ⟨?_, ?_⟩
       · simp; omega
       simp; omega
      clear hx hzm HJ
      generalize m % 10 = d at *
      generalize m / 10 = m' at *
      have hq19 : q + 1 ≤ 20 := by have h := HS20.o; rw [List.length_append, HBl.o] at h; exact h
      rcases hcond with hc1 | ⟨hc1, hc2⟩
      ·
       go_wp2_with (with_reducible refine sA ?_)
       show wpList _ _ _ _ _ _
       refine wpList_app1 (N := w.heap.size) rfl _ _ rfl a4 c4 back x rfl rfl HO.o HU.o.size (by omega) ?_
       intro a5 c5 w5 o5 u5 _
       have HO5 := Ho o5
       have HU5 := Ho (u5 w HU.o (Nat.le_refl _))
       have HL5 := Ho (show (back ++ [x]).length = q + 1 by rw [List.length_append, HBl.o]; rfl)
       clear o5 u5
       simp only [Act.put, pB, pC, pD]
       go_wp2
       go_roundw
       case rel => exact ⟨-(m' : Int), m', q + 1, a5, c5, rfl, by omega, by omega, rfl, hq19, Ho rfl, Ho ⟨back ++ [x], HL5.o, HS.o, HO5.o, HU5.o⟩⟩
       case measure =>
        simp only [intOf, lnV, HMZ.o]
        by_cases hb : q = 0
        · have := HW.o.1 hb; omega
        have := HW.o.2 hb; omega
      ·
       go_wp2_with (with_reducible refine sA ?_)
       show wpList _ _ _ _ _ _
       refine wpList_app1 (N := w.heap.size) rfl _ _ rfl a4 c4 back x rfl rfl HO.o HU.o.size (by omega) ?_
       intro a5 c5 w5 o5 u5 _
       have HO5 := Ho o5
       have HU5 := Ho (u5 w HU.o (Nat.le_refl _))
       have HL5 := Ho (show (back ++ [x]).length = q + 1 by rw [List.length_append, HBl.o]; rfl)
       clear o5 u5
       simp only [Act.put, pB, pC, pD]
       go_wp2
       go_roundw
       case rel => exact ⟨-(m' : Int), m', q + 1, a5, c5, rfl, by omega, by omega, rfl, hq19, Ho rfl, Ho ⟨back ++ [x], HL5.o, HS.o, HO5.o, HU5.o⟩⟩
       case measure =>
        simp only [intOf, lnV, HMZ.o]
        by_cases hb : q = 0
        · have := HW.o.1 hb; omega
        have := HW.o.2 hb; omega
    have hx1 : q ≠ 0 := fun h => hx (.inl h)
    have hx2 : m = 0 := by
     rcases Nat.eq_zero_or_pos m with h | h
     · exact h
     exact absurd (Or.inr (by omega)) hx
    subst hx2
    obtain rfl : z = 0 := by have := hzm.o; omega
    have HD := Ho (HJ.o.end' (fun e => hx1 (by rw [← HBl.o, e]; rfl)))
    have hc1 : ((q : Int) == 0) = false := by simp; omega
    have HSb := Ho (Ow.sb (show Ow wr w.heap.size (.slice a4 q c4) back by unfold Ow; rw [HBl.o]; exact HO.o))
    clear hx hzm HJ HO
    obtain ⟨wb, hwb⟩ : ∃ wb, wb = wr := ⟨_, rfl⟩
    subst hwb
    obtain ⟨N2, hN2⟩ := ny wb.heap.size
    have HN2 := Ho hN2
    clear hN2
    have HPre := Ho (show Go.Lib.itoa n = [] ++ back.reverse by rw [HE.o, if_neg (by omega), HD.o])
    go_wp2
    go_loopw [5, 6] (fun v5 v6 wr => ∃ (j k : Nat) (a5 : Option Addr) (c5 : Nat), v6 = .int .i64 ((j : Int) - 1) ∧ j ≤ q ∧ v5 = .slice a5 k c5 ∧ k ≤ 1 + (q - j) ∧ Hd (wr.ownsRow N2 5 1 (.slice a5 k c5) k (cb (([] : List UInt8) ++ (back.drop j).reverse)) ∧ Up wb wr)) (fun _ v6 _ => (intOf v6 + 1).toNat)
    case atStart => exact ⟨q, 0, none, 0, rfl, Nat.le_refl _, rfl, by omega, Ho ⟨by rw [List.drop_of_length_le (by rw [HBl.o]; exact Nat.le_refl _)]; exact World.ownsRow_nil _ _ _ _, Up.refl _⟩⟩
    case round =>
     obtain ⟨j, k, a5, c5, rfl, hj, rfl, hk, hI⟩ := hrel
     have HO := Ho hI.o.1
     have HU2 := Ho hI.o.2
     clear hI
     by_cases hj0 : 0 < j
     · obtain ⟨i, rfl⟩ : ∃ i, j = i + 1 := ⟨j - 1, by omega⟩
       have hii : i < back.length := by rw [HBl.o]; omega
       have hjz : (0 : Int) ≤ ((i + 1 : Nat) : Int) - 1 := by omega
       have hjn : ((i + 1 : Nat) : Int) - 1 = (i : Int) := by omega
       obtain ⟨b7, o7, rfl, hc7⟩ := (HSb.o.up HU2.o).get hii
       have HRv := Ho (rev_take hii)
       generalize back[i]'hii = x at hc7 HRv
       rw [hjn]
       clear hjn hjz hii
       have hiz : (0 : Int) ≤ (i : Int) := by omega
       have hiq : (i : Int) < (q : Int) := by omega
       go_wp2_with (with_reducible refine sA ?_)
       show wpList _ _ _ _ _ _
       refine wpList_app1 (N := N2) rfl _ _ rfl a5 c5 _ x rfl rfl HO.o (by rw [← HN2.o]; exact HU2.o.size) (by omega) ?_
       intro a6 c6 w6 o6 u6 _
       have HO6 := Ho (show w6.ownsRow N2 5 1 (.slice a6 (k + 1) c6) (k + 1) (cb (([] : List UInt8) ++ (back.drop i).reverse)) by rw [← HRv.o, ← List.append_assoc]; exact o6)
       have HU6 := Ho (u6 wb HU2.o (by rw [HN2.o]; exact Nat.le_refl _))
       clear o6 u6 hc7
       simp only [Act.put, pB, pC, pD]
       go_wp2
       go_roundw
       all_goals first
        | exact ⟨i, k + 1, a6, c6, by go_num, by omega, rfl, by omega, Ho ⟨HO6.o, HU6.o⟩⟩
        | (simp [intOf]; omega)
        | (simp [intOf]; done)
     have hj1 : j = 0 := by omega
     subst hj1
     have hjz : ¬ (0 : Int) ≤ ((0 : Nat) : Int) - 1 := by omega
     have HSe := Ho (show Sb wr (.slice a5 k c5) (Go.Lib.itoa n) from Ow.sb (B := N2) (by
      have h1 := HO.o
      rw [List.drop_zero, ← HPre.o] at h1
      unfold Ow
      have h2 := h1.1
      rw [cb_length, Nat.mul_one] at h2
      rw [h2]
      exact h1))
     have hcv := conv_sb2 HSe.o
     go_wp2
     go_ret
     exact ⟨rfl, HU.o.trans HU2.o⟩
 obtain rfl : n = z0 := by have := HM.o; omega
 clear hz0
 go_wp2
 go_loopw [3, 4] (fun v3 v4 wr => ∃ (z : Int) (m q : Nat) (a4 : Option Addr) (c4 : Nat), v3 = .int .i64 z ∧ -9223372036854775808 ≤ z ∧ z ≤ 0 ∧ v4 = .slice a4 q c4 ∧ q ≤ 20 ∧ Hd (z = -(m : Int)) ∧ Hd (∃ back : List UInt8, back.length = q ∧ JF M m back ∧ wr.ownsRow w.heap.size 5 1 (.slice a4 q c4) q (cb back) ∧ Up w wr)) (fun v3 v4 _ => 2 * (intOf v3).natAbs + (1 - lnV v4))
 case atStart => exact ⟨n, M, 0, none, 0, rfl, hzb.1, hzb.2, rfl, by omega, HZ0, Ho ⟨[], rfl, .inr ⟨.inl rfl, by simp⟩, World.ownsRow_nil _ _ _ _, Up.refl _⟩⟩
 case round =>
  obtain ⟨z, m, q, a4, c4, rfl, hz0, hz1, rfl, hq20, hzm, hI⟩ := hrel
  obtain ⟨back, hbl, hJ, hO, hU⟩ := hI.o
  have HBl := Ho hbl
  have HJ := Ho hJ
  have HO := Ho hO
  have HU := Ho hU
  clear hI hbl hJ hO hU
  by_cases hx : q = 0 ∨ m ≠ 0
  · have hd : m % 10 < 10 := Nat.mod_lt _ (by decide)
    have hr : z.tmod 10 = -((m % 10 : Nat) : Int) := by rw [hzm.o, Int.neg_tmod, Int.tmod_eq_emod_of_nonneg (by omega)]; rfl
    have hq : z.tdiv 10 = -((m / 10 : Nat) : Int) := by rw [hzm.o, Int.neg_tdiv, Int.tdiv_eq_ediv_of_nonneg (by omega)]; rfl
    have HS := Ho (HJ.o.step (by
     rcases hx with h | h
     · exact .inl (List.eq_nil_of_length_eq_zero (by rw [HBl.o]; exact h))
     exact .inr h))
    have HS20 := Ho (show (back ++ [UInt8.ofNat (48 + m % 10)]).length ≤ 20 from Nat.le_trans HS.o.len (dig_len hMb))
    have HW := Ho (show (q = 0 → 2 * (m / 10) < 2 * m + 1) ∧ (q ≠ 0 → 2 * (m / 10) < 2 * m) from ⟨fun _ => by omega, fun hb => by
     rcases hx with h | h
     · exact absurd h hb
     omega⟩)
    have HMZ := Ho (show z.natAbs = m by have := hzm.o; omega)
    have hzb2 : (m / 10 : Nat) ≤ 922337203685477580 := by have := hzm.o; omega
    obtain ⟨x, hxx⟩ : ∃ x : UInt8, x = UInt8.ofNat (48 + m % 10) := ⟨_, rfl⟩
    have hxn : 48 + ((m % 10 : Nat) : Int) = (x.toNat : Int) := by rw [hxx, dig_toNat' hd]; omega
    rw [← hxx] at HS HS20
    clear hxx
    have hxl : x.toNat < 256 := x.toNat_lt
    have hcond : ((q : Int) == 0) = true ∨ (((q : Int) == 0) = false ∧ (z != 0) = true) := by
     by_cases hb : q = 0
     · left; rw [hb]; rfl
     right
     have hm := hx.resolve_left hb
     have := hzm.o
     refine ⟨?_, ?_⟩
     · simp; omega
     simp; omega
    clear hx hzm HJ
    generalize m % 10 = d at *
    generalize m / 10 = m' at *
    have hq19 : q + 1 ≤ 20 := by have h := HS20.o; rw [List.length_append, HBl.o] at h; exact h
    rcases hcond with hc1 | ⟨hc1, hc2⟩
    ·
     go_wp2_with (with_reducible refine sA ?_)
     show wpList _ _ _ _ _ _
     refine wpList_app1 (N := w.heap.size) rfl _ _ rfl a4 c4 back x rfl rfl HO.o HU.o.size (by omega) ?_
     intro a5 c5 w5 o5 u5 _
     have HO5 := Ho o5
     have HU5 := Ho (u5 w HU.o (Nat.le_refl _))
     have HL5 := Ho (show (back ++ [x]).length = q + 1 by rw [List.length_append, HBl.o]; rfl)
     clear o5 u5
     simp only [Act.put, pB, pC, pD]
     go_wp2
     go_roundw
     case rel => exact ⟨-(m' : Int), m', q + 1, a5, c5, rfl, by omega, by omega, rfl, hq19, Ho rfl, Ho ⟨back ++ [x], HL5.o, HS.o, HO5.o, HU5.o⟩⟩
     case measure =>
      simp only [intOf, lnV, HMZ.o]
      by_cases hb : q = 0
      · have := HW.o.1 hb; omega
      have := HW.o.2 hb; omega
    ·
     go_wp2_with (with_reducible refine sA ?_)
     show wpList _ _ _ _ _ _
     refine wpList_app1 (N := w.heap.size) rfl _ _ rfl a4 c4 back x rfl rfl HO.o HU.o.size (by omega) ?_
     intro a5 c5 w5 o5 u5 _
     have HO5 := Ho o5
     have HU5 := Ho (u5 w HU.o (Nat.le_refl _))
     have HL5 := Ho (show (back ++ [x]).length = q + 1 by rw [List.length_append, HBl.o]; rfl)
     clear o5 u5
     simp only [Act.put, pB, pC, pD]
     go_wp2
     go_roundw
     case rel => exact ⟨-(m' : Int), m', q + 1, a5, c5, rfl, by omega, by omega, rfl, hq19, Ho rfl, Ho ⟨back ++ [x], HL5.o, HS.o, HO5.o, HU5.o⟩⟩
     case measure =>
      simp only [intOf, lnV, HMZ.o]
      by_cases hb : q = 0
      · have := HW.o.1 hb; omega
      have := HW.o.2 hb; omega
  have hx1 : q ≠ 0 := fun h => hx (.inl h)
  have hx2 : m = 0 := by
   rcases Nat.eq_zero_or_pos m with h | h
   · exact h
   exact absurd (Or.inr (by omega)) hx
  subst hx2
  obtain rfl : z = 0 := by have := hzm.o; omega
  have HD := Ho (HJ.o.end' (fun e => hx1 (by rw [← HBl.o, e]; rfl)))
  have hc1 : ((q : Int) == 0) = false := by simp; omega
  have HSb := Ho (Ow.sb (show Ow wr w.heap.size (.slice a4 q c4) back by unfold Ow; rw [HBl.o]; exact HO.o))
  clear hx hzm HJ HO
  obtain ⟨wb, hwb⟩ : ∃ wb, wb = wr := ⟨_, rfl⟩
  subst hwb
  obtain ⟨N2, hN2⟩ := ny wb.heap.size
  have HN2 := Ho hN2
  clear hN2
  by_cases hneg : n < 0
  · have HPre := Ho (show Go.Lib.itoa n = [45] ++ back.reverse by rw [HE.o, if_pos hneg, HD.o])
    go_wp2_with (with_reducible refine sA ?_)
    show wpList _ _ _ _ _ _
    refine wpList_app1 (w := wb) (N := N2) rfl _ _ rfl none 0 [] 45 rfl rfl (World.ownsRow_nil _ _ _ _) (by rw [HN2.o]; exact Nat.le_refl _) (by omega) ?_
    intro a9 c9 w9 o9 u9 _
    have HO9 := Ho (show w9.ownsRow N2 5 1 (.slice a9 1 c9) 1 (cb ([45] ++ ([] : List UInt8).reverse)) from o9)
    have HU9 := Ho (u9 wb (Up.refl _) (by rw [HN2.o]; exact Nat.le_refl _))
    clear o9 u9
    simp only [Act.put, pB, pC, pD]
    go_wp2
    go_loopw [5, 6] (fun v5 v6 wr => ∃ (j k : Nat) (a5 : Option Addr) (c5 : Nat), v6 = .int .i64 ((j : Int) - 1) ∧ j ≤ q ∧ v5 = .slice a5 k c5 ∧ k ≤ 1 + (q - j) ∧ Hd (wr.ownsRow N2 5 1 (.slice a5 k c5) k (cb ([45] ++ (back.drop j).reverse)) ∧ Up wb wr)) (fun _ v6 _ => (intOf v6 + 1).toNat)
    case atStart => exact ⟨q, 1, a9, c9, rfl, Nat.le_refl _, rfl, by omega, Ho ⟨by rw [List.drop_of_length_le (by rw [HBl.o]; exact Nat.le_refl _)]; exact HO9.o, HU9.o⟩⟩
    case round =>
     obtain ⟨j, k, a5, c5, rfl, hj, rfl, hk, hI⟩ := hrel
     have HO := Ho hI.o.1
     have HU2 := Ho hI.o.2
     clear hI
     by_cases hj0 : 0 < j
     · obtain ⟨i, rfl⟩ : ∃ i, j = i + 1 := ⟨j - 1, by omega⟩
       have hii : i < back.length := by rw [HBl.o]; omega
       have hjz : (0 : Int) ≤ ((i + 1 : Nat) : Int) - 1 := by omega
       have hjn : ((i + 1 : Nat) : Int) - 1 = (i : Int) := by omega
       obtain ⟨b7, o7, rfl, hc7⟩ := (HSb.o.up HU2.o).get hii
       have HRv := Ho (rev_take hii)
       generalize back[i]'hii = x at hc7 HRv
       rw [hjn]
       clear hjn hjz hii
       have hiz : (0 : Int) ≤ (i : Int) := by omega
       have hiq : (i : Int) < (q : Int) := by omega
       go_wp2_with (with_reducible refine sA ?_)
       show wpList _ _ _ _ _ _
       refine wpList_app1 (N := N2) rfl _ _ rfl a5 c5 _ x rfl rfl HO.o (by rw [← HN2.o]; exact HU2.o.size) (by omega) ?_
       intro a6 c6 w6 o6 u6 _
       have HO6 := Ho (show w6.ownsRow N2 5 1 (.slice a6 (k + 1) c6) (k + 1) (cb ([45] ++ (back.drop i).reverse)) by rw [← HRv.o, ← List.append_assoc]; exact o6)
       have HU6 := Ho (u6 wb HU2.o (by rw [HN2.o]; exact Nat.le_refl _))
       clear o6 u6 hc7
       simp only [Act.put, pB, pC, pD]
       go_wp2
       go_roundw
       all_goals first
        | exact ⟨i, k + 1, a6, c6, by go_num, by omega, rfl, by omega, Ho ⟨HO6.o, HU6.o⟩⟩
        | (simp [intOf]; omega)
        | (simp [intOf]; done)
     have hj1 : j = 0 := by omega
     subst hj1
     have hjz : ¬ (0 : Int) ≤ ((0 : Nat) : Int) - 1 := by omega
     have HSe := Ho (show Sb wr (.slice a5 k c5) (Go.Lib.itoa n) from Ow.sb (B := N2) (by
      have h1 := HO.o
      rw [List.drop_zero, ← HPre.o] at h1
      unfold Ow
      have h2 := h1.1
      rw [cb_length, Nat.mul_one] at h2
      rw [h2]
      exact h1))
     have hcv := conv_sb2 HSe.o
     go_wp2
     go_ret
     exact ⟨rfl, HU.o.trans HU2.o⟩
  have HPre := Ho (show Go.Lib.itoa n = [] ++ back.reverse by rw [HE.o, if_neg hneg, HD.o])
  go_wp2
  go_loopw [5, 6] (fun v5 v6 wr => ∃ (j k : Nat) (a5 : Option Addr) (c5 : Nat), v6 = .int .i64 ((j : Int) - 1) ∧ j ≤ q ∧ v5 = .slice a5 k c5 ∧ k ≤ 1 + (q - j) ∧ Hd (wr.ownsRow N2 5 1 (.slice a5 k c5) k (cb (([] : List UInt8) ++ (back.drop j).reverse)) ∧ Up wb wr)) (fun _ v6 _ => (intOf v6 + 1).toNat)
  case atStart => exact ⟨q, 0, none, 0, rfl, Nat.le_refl _, rfl, by omega, Ho ⟨by rw [List.drop_of_length_le (by rw [HBl.o]; exact Nat.le_refl _)]; exact World.ownsRow_nil _ _ _ _, Up.refl _⟩⟩
  case round =>
   obtain ⟨j, k, a5, c5, rfl, hj, rfl, hk, hI⟩ := hrel
   have HO := Ho hI.o.1
   have HU2 := Ho hI.o.2
   clear hI
   by_cases hj0 : 0 < j
   · obtain ⟨i, rfl⟩ : ∃ i, j = i + 1 := ⟨j - 1, by omega⟩
     have hii : i < back.length := by rw [HBl.o]; omega
     have hjz : (0 : Int) ≤ ((i + 1 : Nat) : Int) - 1 := by omega
     have hjn : ((i + 1 : Nat) : Int) - 1 = (i : Int) := by omega
     obtain ⟨b7, o7, rfl, hc7⟩ := (HSb.o.up HU2.o).get hii
     have HRv := Ho (rev_take hii)
     generalize back[i]'hii = x at hc7 HRv
     rw [hjn]
     clear hjn hjz hii
     have hiz : (0 : Int) ≤ (i : Int) := by omega
     have hiq : (i : Int) < (q : Int) := by omega
     go_wp2_with (with_reducible refine sA ?_)
     show wpList _ _ _ _ _ _
     refine wpList_app1 (N := N2) rfl _ _ rfl a5 c5 _ x rfl rfl HO.o (by rw [← HN2.o]; exact HU2.o.size) (by omega) ?_
     intro a6 c6 w6 o6 u6 _
     have HO6 := Ho (show w6.ownsRow N2 5 1 (.slice a6 (k + 1) c6) (k + 1) (cb (([] : List UInt8) ++ (back.drop i).reverse)) by rw [← HRv.o, ← List.append_assoc]; exact o6)
     have HU6 := Ho (u6 wb HU2.o (by rw [HN2.o]; exact Nat.le_refl _))
     clear o6 u6 hc7
     simp only [Act.put, pB, pC, pD]
     go_wp2
     go_roundw
     all_goals first
      | exact ⟨i, k + 1, a6, c6, by go_num, by omega, rfl, by omega, Ho ⟨HO6.o, HU6.o⟩⟩
      | (simp [intOf]; omega)
      | (simp [intOf]; done)
   have hj1 : j = 0 := by omega
   subst hj1
   have hjz : ¬ (0 : Int) ≤ ((0 : Nat) : Int) - 1 := by omega
   have HSe := Ho (show Sb wr (.slice a5 k c5) (Go.Lib.itoa n) from Ow.sb (B := N2) (by
    have h1 := HO.o
    rw [List.drop_zero, ← HPre.o] at h1
    unfold Ow
    have h2 := h1.1
    rw [cb_length, Nat.mul_one] at h2
    rw [h2]
    exact h1))
   have hcv := conv_sb2 HSe.o
   go_wp2
   go_ret
   exact ⟨rfl, HU.o.trans HU2.o⟩
end Go.Proofs.YtehnnlhoajdcaaaGreatDoor
namespace Go.Proofs.YtehnnlhoajdcaaaGreatDoor
open Go.RowKit Go.Shelf TextNum
theorem mtC_get {k : Nat} (h : k < 9) : mtC[k]? = some (.string (mtT.getD k ⟨#[]⟩)) := by
 unfold mtC
 rw [List.getElem?_map, List.getElem?_range h]
 rfl
set_option maxRecDepth 100000 in
set_option maxHeartbeats 1000000 in
theorem Rknown_walk (s : ByteArray) (w : World) (hG : w.rangeAt 0 0 mtC) : Calls Tryz.prog 48 #[.string s] w fun e w' => e = .returned (.bool (mtk s)) ∧ w' = w := by
 have HRn := Ho hG
 clear hG
 obtain ⟨rn, hrn⟩ := ny (mtk s)
 have HN := Ho hrn
 rw [hrn]
 clear hrn
 go_enter Tryz.func48, Tryz.ntmps48
 go_wp2
 go_loopw [3] (fun v3 wr => ∃ i : Nat, v3 = .int .i64 (i : Int) ∧ i ≤ 9 ∧ Hd (wr = w ∧ ((mtT.take i).any fun m => s.toList == m.toList) = false)) (fun v3 _ => 9 - (intOf v3).toNat)
 case atStart => exact ⟨0, rfl, Nat.zero_le _, Ho ⟨rfl, rfl⟩⟩
 case round =>
  obtain ⟨i, rfl, hi, hU⟩ := hrel
  have HU := Ho hU.o
  clear hU
  by_cases hil : i < 9
  · have hiz : (i : Int) < 9 := by omega
    have hc : wr.cell? ⟨0, i, none⟩ = some (.string (mtT.getD i ⟨#[]⟩)) := by
     have h := HRn.o i _ (mtC_get hil)
     rw [Nat.zero_add] at h
     rw [HU.o.1]
     exact h
    have HX := Ho (show ((mtT.take (i + 1)).any fun m => s.toList == m.toList) = (s.toList == (mtT.getD i ⟨#[]⟩).toList) by
     rw [mtT_take hil, List.any_append, HU.o.2]
     simp)
    have HMm := Ho (mtT_mem hil)
    generalize mtT.getD i ⟨#[]⟩ = m at *
    cases hm : (m.toList == s.toList) with
    | true =>
     have HE := Ho (show rn = true by
      rw [← HN.o]
      unfold mtk
      rw [List.any_eq_true]
      exact ⟨m, HMm.o, by rw [beq_iff_eq] at hm ⊢; exact hm.symm⟩)
     go_wp2
     go_ret
     rw [HE.o]
     exact ⟨rfl, HU.o.1⟩
    | false =>
     have HY := Ho (show ((mtT.take (i + 1)).any fun m => s.toList == m.toList) = false by
      rw [HX.o, beq_eq_false_iff_ne]
      rw [beq_eq_false_iff_ne] at hm
      exact fun e => hm e.symm)
     go_wp2
     go_roundw
     all_goals first
      | exact ⟨i + 1, by go_num, by omega, Ho ⟨HU.o.1, HY.o⟩⟩
      | (simp [intOf]; omega)
  have hiz : ¬ (i : Int) < 9 := by omega
  have HE := Ho (show rn = false by
   have h1 := HU.o.2
   rw [List.take_of_length_le (by show 9 ≤ i; omega)] at h1
   rw [← HN.o]
   exact h1)
  go_wp2
  go_ret
  rw [HE.o]
  exact ⟨rfl, HU.o.1⟩
def rsI : List Value := (List.range 24).map fun k => .int .i64 ((rsT.getD k (0, ⟨#[]⟩)).1)
def rsS : List Value := (List.range 24).map fun k => .string ((rsT.getD k (0, ⟨#[]⟩)).2)
theorem rsI_get {k : Nat} (h : k < 24) : rsI[k]? = some (.int .i64 ((rsT.getD k (0, ⟨#[]⟩)).1)) := by
 unfold rsI
 rw [List.getElem?_map, List.getElem?_range h]
 rfl
theorem rsS_get {k : Nat} (h : k < 24) : rsS[k]? = some (.string ((rsT.getD k (0, ⟨#[]⟩)).2)) := by
 unfold rsS
 rw [List.getElem?_map, List.getElem?_range h]
 rfl
set_option maxRecDepth 100000 in
set_option maxHeartbeats 1000000 in
theorem RReason_walk (st : Int) (h0 : -9223372036854775808 ≤ st) (h1 : st ≤ 9223372036854775807) (w : World) (hI : w.rangeAt 9 0 rsI) (hS : w.rangeAt 10 0 rsS) :
  Calls Tryz.prog 65 #[.int .i64 st] w fun e w' => e = .returned (vs (rsn st)) ∧ Up w w' := by
 have HI := Ho hI
 have HS := Ho hS
 clear hI hS
 obtain ⟨rn, hrn⟩ := ny (rsn st)
 have HN := Ho hrn
 rw [hrn]
 clear hrn
 have hil20 := itoa_len st h0 h1
 go_enter Tryz.func65, Tryz.ntmps65
 go_wp2
 go_loopw [3] (fun v3 wr => ∃ i : Nat, v3 = .int .i64 (i : Int) ∧ i ≤ 24 ∧ Hd (wr = w ∧ (rsT.take i).find? (fun p => p.1 == st) = none)) (fun v3 _ => 24 - (intOf v3).toNat)
 case atStart => exact ⟨0, rfl, Nat.zero_le _, Ho ⟨rfl, rfl⟩⟩
 case round =>
  obtain ⟨i, rfl, hi, hU⟩ := hrel
  have HU := Ho hU.o
  clear hU
  by_cases hil : i < 24
  · have hiz : (i : Int) < 24 := by omega
    have hc : wr.cell? ⟨9, i, none⟩ = some (.int .i64 ((rsT.getD i (0, ⟨#[]⟩)).1)) := by
     have h := HI.o i _ (rsI_get hil)
     rw [Nat.zero_add] at h
     rw [HU.o.1]
     exact h
    have hd : wr.cell? ⟨10, i, none⟩ = some (.string ((rsT.getD i (0, ⟨#[]⟩)).2)) := by
     have h := HS.o i _ (rsS_get hil)
     rw [Nat.zero_add] at h
     rw [HU.o.1]
     exact h
    have HT := Ho (rsT_take hil)
    have HSp := Ho (rsT_split hil)
    generalize rsT.getD i (0, ⟨#[]⟩) = p at *
    cases hp : (p.1 == st) with
    | true =>
     have HE := Ho (show rn = p.2.data.toList by
      rw [← HN.o]
      unfold rsn
      rw [HSp.o, List.find?_append, HU.o.2, List.find?_cons, hp]
      rfl)
     go_wp2
     go_ret
     rw [HE.o, vs_data']
     exact ⟨rfl, by rw [HU.o.1]; exact Up.refl _⟩
    | false =>
     have HY := Ho (show (rsT.take (i + 1)).find? (fun p => p.1 == st) = none by
      rw [HT.o, List.find?_append, HU.o.2, List.find?_cons, hp]
      rfl)
     go_wp2
     go_roundw
     all_goals first
      | exact ⟨i + 1, by go_num, by omega, Ho ⟨HU.o.1, HY.o⟩⟩
      | (simp [intOf]; omega)
  have hiz : ¬ (i : Int) < 24 := by omega
  have HE := Ho (show rn = [83, 116, 97, 116, 117, 115, 32] ++ Go.Lib.itoa st by
   have h1 := HU.o.2
   rw [List.take_of_length_le (by show 24 ≤ i; omega)] at h1
   rw [← HN.o]
   unfold rsn
   rw [h1])
  go_wp2_with fail
  refine (RFormatNumber_walk st h0 h1 wr).mono ?_
  rintro e w2 ⟨rfl, h9⟩
  have HU2 := Ho (show Up w w2 by rw [← HU.o.1]; exact h9)
  clear h9
  rw [show vs (Go.Lib.itoa st) = .string ⟨(Go.Lib.itoa st).toArray⟩ from rfl]
  have hsz : (⟨(Go.Lib.itoa st).toArray⟩ : ByteArray).size = (Go.Lib.itoa st).length := by simp [ByteArray.size]
  have hl1 : ¬ 9223372036854775807 < 7 + (Go.Lib.itoa st).length := by omega
  dsimp only
  go_wp2
  go_ret
  refine ⟨?_, HU2.o⟩
  rw [HE.o]
  congr 1
abbrev StO (w : World) (N : Nat) (a : Option Addr) (ss : List ByteArray) (c : Nat) : Prop := w.ownsRow N 9 1 (.slice a ss.length c) ss.length (ss.map Value.string)
theorem StO.stl {w : World} {N : Nat} {a : Option Addr} {ss : List ByteArray} {c : Nat} (h : StO w N a ss c) : StL w a ss c := by
 refine ⟨?_, fun i hi => ?_⟩
 · rcases h.2 with ⟨_, h0⟩ | ⟨g, cap, cur, e, _, _, hc, _⟩
   · omega
   injection e with _ _ e3
   omega
 rcases h.2 with ⟨_, h0⟩ | ⟨g, cap, cur, e, _, _, hc, _⟩
 · omega
 injection e with e1 _ e3
 subst e1 e3
 have hc := World.ownsRow.cells h rfl
 have h1 := hc i (.string ss[i]) (by rw [List.getElem?_map, List.getElem?_eq_getElem hi]; rfl)
 rw [Addr.add_lit] at h1
 exact ⟨g, 0, rfl, h1⟩
theorem Tryz.infoSt : (Tryz.prog.info? 9).map (fun i => (i.zero, i.size, i.bytes)) = some (some (.string ⟨#[]⟩), 1, 16) := by kernel_rfl
theorem wpList_appSt {w : World} {N q : Nat} {ops : Array Oper} {rest : List Oper} {o : Oper} {a : Act} {Q : Exit → Act → World → Prop} (hgd : o.guard = none) (x y : Operand)
  (ho : o.op = .call { callee := .builtin .append, args := #[x, y], argTypes := #[25, 25] }) (ax : Option Addr) (cx : Nat) (fs : List ByteArray) (f : ByteArray) (hq : fs.length = q) (hx : a.eval x = .slice ax q cx) (hy : a.eval y = .slice (some ⟨w.heap.size, 0, none⟩) 1 1)
  (hR : StO w N ax fs cx) (hNw : N ≤ w.heap.size) (hql : q ≤ 1099511627776)
  (K : ∀ ax2 cx2 w', StO w' N ax2 (fs ++ [f]) cx2 → (∀ W, Up W w → W.heap.size ≤ N → Up W w') → wpList Tryz.prog ops Q rest (a.put o.dst (.slice ax2 (q + 1) cx2)) w') :
  wpList Tryz.prog ops Q (o :: rest) a (w.alloc (.cells #[.string f] 9)) := by
 subst hq
 obtain ⟨i1, hi1, hz0, hz1, hz2⟩ := info_parts Tryz.infoSt
 have HUx := (Up.refl w).alloc (.cells #[.string f] 9)
 have hnu := ow_up hR HUx
 refine wpList_append_own _ hgd x y 25 ho N 9 i1 (.string ⟨#[]⟩) 1 16 Tryz.underlying25 hi1 hz0 hz1 hz2 rfl (by omega) (.slice ax fs.length cx) fs.length _ hx hnu ⟨w.heap.size, 0, none⟩ 1 1 [.string f] hy rfl ?_ ?_ (by simp only [maxLen]; omega) (by omega) (Nat.le_trans hNw HUx.size) ?_
 · intro j u hu
   rw [Addr.add_lit]
   exact At.cell (at_new w 9 [.string f]) (i := 0 + j) (by rw [Nat.zero_add]; exact hu)
 · intro u hu
   obtain rfl := List.mem_singleton.1 hu
   rfl
 intro v8 w8 o8 g8 _
 obtain ⟨ax2, cx2, rfl⟩ : ∃ ax2 cx2, v8 = .slice ax2 (fs.length + 1) cx2 := by
  rcases o8.2 with ⟨_, h0⟩ | ⟨g, cap, cur, e1, _⟩
  · omega
  exact ⟨_, cap, e1⟩
 refine K ax2 cx2 w8 ?_ (fun W hU hW => up_grownBy (hU.trans HUx) g8 (fun k hk => Nat.le_trans hW (World.ownsRow.lt hR k hk).1))
 show w8.ownsRow N 9 1 (.slice ax2 (fs ++ [f]).length cx2) (fs ++ [f]).length ((fs ++ [f]).map Value.string)
 rw [List.length_append, List.map_append]
 exact o8
def alv (fs : List FD) (nm : ByteArray) : List ByteArray := (fs.filter fun f => lws f.n.data.toList == nm.data.toList).map (·.v)
theorem alv_yes {fs : List FD} {f : FD} {nm : ByteArray} (h : (lws f.n.data.toList == nm.data.toList) = true) : alv (fs ++ [f]) nm = alv fs nm ++ [f.v] := by simp [alv, List.filter_append, h]
theorem alv_no {fs : List FD} {f : FD} {nm : ByteArray} (h : (lws f.n.data.toList == nm.data.toList) = false) : alv (fs ++ [f]) nm = alv fs nm := by simp [alv, List.filter_append, h]
set_option maxRecDepth 100000 in
set_option maxHeartbeats 2000000 in
theorem Rall_walk (a : Option Addr) (fs : List FD) (c : Nat) (nm : ByteArray) (w : World) (h : FdL w a fs c) (hl : szs fs ≤ 1099511627776) :
  Calls Tryz.prog 96 #[.slice a fs.length c, .string nm] w fun e w' => (∃ a2 c2, e = .returned (.slice a2 (alv fs nm).length c2) ∧ Hd (StO w' w.heap.size a2 (alv fs nm) c2)) ∧ Up w w' := by
 have HF := Ho h
 have hcap := h.cap
 have hsl := szs_len fs
 have HM := Ho (fun (f : FD) (hf : f ∈ fs) => show f.n.size ≤ 1099511627776 from by have := szs_mem fs hf; omega)
 clear h
 go_enter Tryz.func96, Tryz.ntmps96
 go_wp2
 go_loopw [5, 6] (fun v5 v6 wr => ∃ i : Nat, v6 = .int .i64 (i : Int) ∧ i ≤ fs.length ∧ ∃ q a7 c7, v5 = .slice a7 q c7 ∧ q ≤ i ∧ Hd (StO wr w.heap.size a7 (alv (fs.take i) nm) c7 ∧ Up w wr ∧ (alv (fs.take i) nm).length = q)) (fun _ v6 _ => fs.length - (intOf v6).toNat)
 case atStart => exact ⟨0, rfl, Nat.zero_le _, 0, none, 0, rfl, Nat.le_refl _, Ho ⟨World.ownsRow_nil _ _ _ _, Up.refl _, rfl⟩⟩
 case round =>
  obtain ⟨i, rfl, hi, q, a7, c7, rfl, hqi, hU⟩ := hrel
  have HQ := Ho hU.o
  clear hU
  by_cases hil : i < fs.length
  · have hilz : (i : Int) < (fs.length : Int) := by omega
    obtain ⟨b, off, rfl, k1, k2⟩ := HF.o.cells i hil
    have HT := Ho (List.take_succ_eq_append_getElem hil)
    have hfn := HM.o _ (List.getElem_mem hil)
    obtain ⟨f, hf⟩ := ny (fs[i])
    rw [hf] at k1 k2 HT hfn
    have HK2 := Ho k2
    have HLn := Ho HQ.o.2.2
    have k3 := HQ.o.2.1.cell k1
    clear hf k1 k2
    go_wp2_with (with_reducible refine sI 54 ?_)
    show wpList _ _ _ _ _ _
    refine wpList_val7 (.pointer (some ⟨b, off + i * 2, none⟩)) rfl (exec_idxRf i hil rfl rfl rfl) ?_
    simp only [Act.put, pB, pC, pD]
    go_wp2_with fail
    refine (lowerL_walk f.n wr hfn).mono ?_
    rintro e w4 ⟨rfl, u5⟩
    have HU4 := Ho (HQ.o.2.1.trans u5)
    have HO4 := Ho (ow_up HQ.o.1 u5)
    clear u5 HQ k3
    have HNm0 : (⟨(lws f.n.data.toList).toArray⟩ : ByteArray).data.toList = lws f.n.data.toList := rfl
    generalize (⟨(lws f.n.data.toList).toArray⟩ : ByteArray) = nw at HNm0 ⊢
    have HNm := Ho HNm0
    clear HNm0
    dsimp only
    cases h3 : (nw.toList == nm.toList) with
    | true =>
     have HB := Ho (show (lws f.n.data.toList == nm.data.toList) = true by rw [← HNm.o, ← Go.Lib.toList_data, ← Go.Lib.toList_data]; exact h3)
     have HA := Ho (show alv (fs.take (i + 1)) nm = alv (fs.take i) nm ++ [f.v] by rw [HT.o, alv_yes HB.o])
     have c2 := HU4.o.cell HK2.o
     go_wp2_with (with_reducible refine sI 54 ?_)
     show wpList _ _ _ _ _ _
     refine wpList_val7 (.pointer (some ⟨b, off + i * 2, none⟩)) rfl (exec_idxRf i hil rfl rfl rfl) ?_
     simp only [Act.put, pB, pC, pD]
     go_wp2_with (with_reducible refine sA ?_)
     show wpList _ _ _ _ _ _
     refine wpList_appSt (w := w4) (N := w.heap.size) rfl _ _ rfl a7 c7 _ f.v HLn.o rfl rfl HO4.o HU4.o.size (by omega) ?_
     intro ax2 cx2 w7 o7 u7
     have HO7 := Ho (show StO w7 w.heap.size ax2 (alv (fs.take (i + 1)) nm) cx2 by rw [HA.o]; exact o7)
     have HU7 := Ho (u7 w HU4.o (Nat.le_refl _))
     have HL7 := Ho (show (alv (fs.take (i + 1)) nm).length = q + 1 by rw [HA.o, List.length_append, HLn.o]; rfl)
     clear o7 u7 c2
     simp only [Act.put, pB, pC, pD]
     go_wp2
     go_roundw
     all_goals first
      | exact ⟨i + 1, by go_num, by omega, q + 1, ax2, cx2, rfl, by omega, Ho ⟨HO7.o, HU7.o, HL7.o⟩⟩
      | (simp [intOf]; omega)
    | false =>
     have HB := Ho (show (lws f.n.data.toList == nm.data.toList) = false by rw [← HNm.o, ← Go.Lib.toList_data, ← Go.Lib.toList_data]; exact h3)
     have HA := Ho (show alv (fs.take (i + 1)) nm = alv (fs.take i) nm by rw [HT.o, alv_no HB.o])
     have HO7 := Ho (show StO w4 w.heap.size a7 (alv (fs.take (i + 1)) nm) c7 by rw [HA.o]; exact HO4.o)
     have HL7 := Ho (show (alv (fs.take (i + 1)) nm).length = q by rw [HA.o]; exact HLn.o)
     go_wp2
     go_roundw
     all_goals first
      | exact ⟨i + 1, by go_num, by omega, q, a7, c7, rfl, by omega, Ho ⟨HO7.o, HU4.o, HL7.o⟩⟩
      | (simp [intOf]; omega)
  have hilz : ¬ (i : Int) < (fs.length : Int) := by omega
  have HO8 := Ho (show StO wr w.heap.size a7 (alv fs nm) c7 by
   have h1 := HQ.o.1
   rw [List.take_of_length_le (by omega)] at h1
   exact h1)
  have HL8 := Ho (show (alv fs nm).length = q by
   have h1 := HQ.o.2.2
   rw [List.take_of_length_le (by omega)] at h1
   exact h1)
  have HU8 := Ho HQ.o.2.1
  clear HQ
  go_wp2
  go_ret
  exact ⟨⟨a7, c7, by rw [HL8.o]; rfl, HO8⟩, HU8.o⟩
def bts (ls : List (List UInt8)) : List ByteArray := ls.map fun x => ⟨x.toArray⟩
theorem bts_snoc (ls : List (List UInt8)) (x : List UInt8) : bts (ls ++ [x]) = bts ls ++ [⟨x.toArray⟩] := by simp [bts]
theorem bts_len (ls : List (List UInt8)) : (bts ls).length = ls.length := by simp [bts]
theorem mk_data (s : ByteArray) : (⟨s.data.toList.toArray⟩ : ByteArray) = s := by cases s; rfl
theorem extr_mk (s : ByteArray) (a b : Nat) : s.extract a b = ⟨((s.data.toList.drop a).take (b - a)).toArray⟩ := by rw [← extr_mid, mk_data]
theorem pcs_at {c : UInt8} {l : List UInt8} {k i : Nat} (hk : k ≤ i) (hi : i < l.length) (h : c ∉ (l.drop k).take (i - k)) (hc : l[i] = c) : pcs c (l.drop k) = (l.drop k).take (i - k) :: pcs c (l.drop (i + 1)) := by
 have e : l.drop k = (l.drop k).take (i - k) ++ c :: (l.drop (i + 1)) := by
  conv => lhs; rw [← List.take_append_drop (i - k) (l.drop k), List.drop_drop, show k + (i - k) = i by omega, List.drop_eq_getElem_cons hi, hc]
 conv => lhs; rw [e]
 rw [pcs_cut _ h]
set_option maxRecDepth 100000 in
set_option maxHeartbeats 2000000 in
theorem Rpieces_walk (s : ByteArray) (c : UInt8) (hs : s.size ≤ 1099511627000) (w : World) : Calls Tryz.prog 74 #[.string s, vb c] w fun e w' => (∃ a2 c2, e = .returned (.slice a2 (pcs c s.data.toList).length c2) ∧ Hd (StO w' w.heap.size a2 (bts (pcs c s.data.toList)) c2)) ∧ Up w w' := by
 obtain ⟨L, hL⟩ := ny s.data.toList
 have HLL := Ho hL
 have HS := Ho (show s.size = L.length by rw [← hL]; exact Go.Lib.size_eq s)
 rw [hL]
 clear hL
 go_enter Tryz.func74, Tryz.ntmps74
 go_wp2
 go_loopw [5, 6, 7] (fun v5 v6 v7 wr => ∃ i k q : Nat, v7 = .int .i64 (i : Int) ∧ v6 = .int .i64 (k : Int) ∧ k ≤ i ∧ i ≤ s.size ∧ ∃ a7 c7, v5 = .slice a7 q c7 ∧ q ≤ i ∧ Hd (∃ d, StO wr w.heap.size a7 (bts d) c7 ∧ Up w wr ∧ d.length = q ∧ c ∉ (L.drop k).take (i - k) ∧ pcs c L = d ++ pcs c (L.drop k))) (fun _ _ v7 _ => s.size - (intOf v7).toNat)
 case atStart => exact ⟨0, 0, 0, rfl, rfl, Nat.le_refl _, Nat.zero_le _, none, 0, rfl, Nat.le_refl _, Ho ⟨[], World.ownsRow_nil _ _ _ _, Up.refl _, rfl, by simp, rfl⟩⟩
 case round =>
  obtain ⟨i, k, q, rfl, rfl, hki, his, a7, c7, rfl, hqi, hU⟩ := hrel
  obtain ⟨d, hO, hUp, hdl, hno, hpc⟩ := hU.o
  have HO := Ho hO
  have HU := Ho hUp
  have HD := Ho (show (bts d).length = q by rw [bts_len]; exact hdl)
  have HN := Ho hno
  have HP := Ho hpc
  clear hU hO hUp hdl hno hpc
  by_cases hil : i < s.size
  · have hilz : (i : Int) < (s.size : Int) := by omega
    have hg := sget' s i hil
    have hiL : i < L.length := by rw [← HS.o]; exact hil
    have hgx : s.data.toList[i]'(by rw [HLL.o]; exact hiL) = L[i] := by
     have h1 := HLL.o
     subst h1
     rfl
    rw [hgx] at hg
    clear hgx
    have HT := Ho (show (L.drop k).take (i + 1 - k) = (L.drop k).take (i - k) ++ [L[i]] by
     rw [show i + 1 - k = (i - k) + 1 by omega, List.take_succ_eq_append_getElem (by rw [List.length_drop]; omega), List.getElem_drop]
     simp only [show k + (i - k) = i by omega])
    by_cases hx : L[i] = c
    · have HC := Ho (pcs_at hki hiL HN.o hx)
      rw [hx] at hg
      clear HT hx
      have hb : (k : Int) ≤ (i : Int) := by omega
      go_wp2_with (with_reducible refine sA ?_)
      show wpList _ _ _ _ _ _
      refine wpList_appSt (w := wr) (N := w.heap.size) rfl _ _ rfl a7 c7 _ (s.extract k i) HD.o rfl rfl HO.o HU.o.size (by omega) ?_
      intro ax2 cx2 w7 o7 u7
      have HO7 := Ho (show StO w7 w.heap.size ax2 (bts (d ++ [(L.drop k).take (i - k)])) cx2 by rw [bts_snoc, ← HLL.o, ← extr_mk]; exact o7)
      have HU7 := Ho (u7 w HU.o (Nat.le_refl _))
      have HL7 := Ho (show (d ++ [(L.drop k).take (i - k)]).length = q + 1 by rw [List.length_append, ← bts_len, HD.o]; rfl)
      have HP7 := Ho (show pcs c L = (d ++ [(L.drop k).take (i - k)]) ++ pcs c (L.drop (i + 1)) by rw [HP.o, HC.o, List.append_assoc]; rfl)
      clear o7 u7
      simp only [Act.put, pB, pC, pD]
      go_wp2
      go_roundw
      all_goals first
       | exact ⟨i + 1, i + 1, q + 1, by go_num, by go_num, Nat.le_refl _, by omega, ax2, cx2, rfl, by omega, Ho ⟨_, HO7.o, HU7.o, HL7.o, by rw [Nat.sub_self]; simp, HP7.o⟩⟩
       | (simp [intOf]; omega)
    have hxz : ((L[i].toNat : Int) == (c.toNat : Int)) = false := by
     rw [beq_eq_false_iff_ne]
     intro e
     exact hx (UInt8.toNat_inj.1 (by omega))
    have HN7 := Ho (show c ∉ (L.drop k).take (i + 1 - k) by
     rw [HT.o]
     intro hm
     rcases List.mem_append.1 hm with h | h
     · exact HN.o h
     exact hx (List.mem_singleton.1 h).symm)
    clear HT
    generalize L[i] = x at *
    clear hx
    go_wp2
    go_roundw
    all_goals first
     | exact ⟨i + 1, k, q, by go_num, rfl, by omega, by omega, a7, c7, rfl, by omega, Ho ⟨d, HO.o, HU.o, by rw [← bts_len]; exact HD.o, HN7.o, HP.o⟩⟩
     | (simp [intOf]; omega)
  have hilz : ¬ (i : Int) < (s.size : Int) := by omega
  have hb : (k : Int) ≤ (s.size : Int) := by omega
  have HC := Ho (show pcs c L = d ++ [L.drop k] by
   rw [HP.o]
   have h1 := HN.o
   rw [List.take_of_length_le (by rw [List.length_drop, ← HS.o]; omega)] at h1
   rw [pcs_no h1])
  go_wp2_with (with_reducible refine sA ?_)
  show wpList _ _ _ _ _ _
  refine wpList_appSt (w := wr) (N := w.heap.size) rfl _ _ rfl a7 c7 _ (s.extract k s.size) HD.o rfl rfl HO.o HU.o.size (by omega) ?_
  intro ax2 cx2 w7 o7 u7
  have HO7 := Ho (show StO w7 w.heap.size ax2 (bts (pcs c L)) cx2 by
   rw [HC.o, bts_snoc]
   rw [extr_mk, HLL.o, List.take_of_length_le (by rw [List.length_drop, HS.o]; omega)] at o7
   exact o7)
  have HU7 := Ho (u7 w HU.o (Nat.le_refl _))
  have HL7 := Ho (show (pcs c L).length = q + 1 by rw [HC.o, List.length_append, ← bts_len, HD.o]; rfl)
  clear o7 u7
  simp only [Act.put, pB, pC, pD]
  go_wp2
  go_ret
  exact ⟨⟨ax2, cx2, by rw [HL7.o]; rfl, HO7⟩, HU7.o⟩
theorem all_dropWhile {p q : UInt8 → Bool} (h : ∀ x, q x = true → p x = true) : ∀ l : List UInt8, (l.dropWhile q).all p = l.all p
 | [] => rfl
 | x :: l => by
  rw [List.dropWhile_cons]
  split
  · rename_i hq
    rw [all_dropWhile h l, List.all_cons, h x hq, Bool.true_and]
  rfl
theorem vlu_trm (l : List UInt8) : vlu (trm l) = vlu l := by
 have h : ∀ x : UInt8, bks.data.toList.contains x = true → vlc x = true := by
  intro x hx
  have : x = 32 ∨ x = 9 := by simpa [bks] using hx
  rcases this with rfl | rfl <;> decide
 unfold vlu trm Go.Lib.trimS Go.Lib.trimLeftS Go.Lib.trimRightS
 rw [all_dropWhile h, List.all_reverse, all_dropWhile h, List.all_reverse]
def okl (s : List UInt8) : Bool := (Go.Lib.cut s [58]).2.2 && (tok (c1 58 s) && vlu (c2 58 s))
def fll (s : List UInt8) : FD := ⟨⟨(c1 58 s).toArray⟩, ⟨(trm (c2 58 s)).toArray⟩⟩
theorem fok_okl (ln : List UInt8) : fok ln = okl (tcr ln) := by
 unfold fok okl
 rw [vlu_trm]
def rfd (ls : List (List UInt8)) : Er (List FD) := if 64 < ls.length then .error 1 else if ls.all okl = true then .ok (ls.map fll) else .error 5
theorem rdf_rfd {l : List UInt8} {ls : List (List UInt8)} (h1 : (linesOf l).map tcr = ls) (h2 : l.count 10 = ls.length) : rdf l = rfd ls := by
 unfold rdf rfd Go.Lib.countByte
 rw [h2]
 have e1 : (linesOf l).all fok = ls.all okl := by
  rw [← h1, List.all_map]
  congr 1
  funext x
  exact fok_okl x
 have e2 : (linesOf l).map fln = ls.map fll := by
  rw [← h1, List.map_map]
  rfl
 rw [e1, e2]
def rHd (pl : Nat) (l : List UInt8) : Er (List UInt8 × List (List UInt8) × Nat) := match fnl l with
 | none => if l.length < 8002 then .error 2 else .error (12 + pl)
 | some i => if 8000 < (tcr (l.take i)).length then .error (12 + pl) else match rF (l.drop (i + 1)) with
   | none => if 16384 < (l.drop (i + 1)).length then .error 1 else .error 2
   | some (ls, _, a) => if 16384 < a then .error 1 else .ok (tcr (l.take i), ls, i + 1 + a)
theorem cHd_ref {α : Type} (pl : Nat) (l : List UInt8) (F : Nat → α) (G : List UInt8 → Er (List FD) → Nat → α) :
  (match cHd pl l with | .error k => F k | .ok (st, fl, k) => G st (rdf fl) k) = (match rHd pl l with | .error k => F k | .ok (st, ls, k) => G st (rfd ls) k) := by
 unfold cHd rHd
 rw [cutL_ref]
 cases hf : fnl l with
 | none =>
  dsimp only
  by_cases h : l.length < 8002
  · rw [if_pos h, if_pos (by omega)]; rfl
  rw [if_neg h, if_neg (by omega)]; rfl
 | some i =>
  dsimp only
  by_cases h : 8000 < (tcr (l.take i)).length
  · rw [if_pos h, if_pos h]; rfl
  rw [if_neg h, if_neg h]
  dsimp only
  rw [mF_ref]
  cases hr : rF (l.drop (i + 1)) with
  | none =>
   dsimp only
   by_cases h2 : 16384 < (l.drop (i + 1)).length
   · rw [if_pos h2, if_pos h2]
   rw [if_neg h2, if_neg h2]
  | some q =>
   obtain ⟨ls, p, a⟩ := q
   dsimp only
   by_cases h2 : 16384 < a
   · rw [if_pos h2, if_pos h2]
   rw [if_neg h2, if_neg h2]
   dsimp only
   have h3 := rfl'_lines _ _ _ _ _ hr
   rw [rdf_rfd h3.1 h3.2]
theorem vok_form {d : List UInt8} (h : vok d = true) : ∃ x y, isD x = true ∧ isD y = true ∧ d = [72, 84, 84, 80, 47, x, 46, y] := by
 unfold vok at h
 rw [Bool.and_eq_true] at h
 obtain ⟨h1, h2⟩ := h
 obtain ⟨t, rfl⟩ := List.isPrefixOf_iff_prefix.1 h1
 have e : (htp.data.toList ++ t).drop 5 = t := rfl
 rw [e] at h2
 unfold v3 at h2
 split at h2
 · rename_i a b c
   rw [Bool.and_eq_true, Bool.and_eq_true, beq_iff_eq] at h2
   obtain ⟨⟨h3, h4⟩, h5⟩ := h2
   subst h4
   exact ⟨a, c, h3, h5, rfl⟩
 cases h2
theorem isD_nat {x : UInt8} (h : isD x = true) : 48 ≤ x.toNat ∧ x.toNat ≤ 57 := by simpa [isD] using h
theorem vok_32 {d : List UInt8} (h : vok d = true) : (32 : UInt8) ∉ d := by
 obtain ⟨x, y, hx, hy, rfl⟩ := vok_form h
 have h1 := isD_nat hx
 have h2 := isD_nat hy
 intro hm
 simp only [List.mem_cons, List.not_mem_nil, or_false] at hm
 rcases hm with e | e | e | e | e | e | e | e
 · cases e
 · cases e
 · cases e
 · cases e
 · cases e
 · subst e; revert h1; decide
 · cases e
 subst e; revert h2; decide
def vrs (l : List UInt8) : Int × Int := if vok l = true then (((l.getD 5 0).toNat : Int) - 48, ((l.getD 7 0).toNat : Int) - 48) else (-1, -1)
theorem mno_vrs {d : List UInt8} (h : vok d = true) : mno ⟨d.toArray⟩ = if (vrs d).1 = 1 ∧ (vrs d).2 ≤ 1 then .ok (vrs d).2 else .error 4 := by
 unfold vrs
 rw [if_pos h]
 obtain ⟨x, y, hx, hy, rfl⟩ := vok_form h
 have h1 := isD_nat hx
 have h2 := isD_nat hy
 rw [show ([72, 84, 84, 80, 47, x, 46, y] : List UInt8).getD 5 0 = x from rfl, show ([72, 84, 84, 80, 47, x, 46, y] : List UInt8).getD 7 0 = y from rfl]
 dsimp only
 unfold mno
 rw [Go.Lib.toList_data, Go.Lib.toList_data, Go.Lib.toList_data]
 have e0 : (([72, 84, 84, 80, 47, x, 46, y] : List UInt8) == vt0.data.toList) = (x == 49 && y == 48) := by
  show (([72, 84, 84, 80, 47, x, 46, y] : List UInt8) == [72, 84, 84, 80, 47, 49, 46, 48]) = _
  simp
 have e1 : (([72, 84, 84, 80, 47, x, 46, y] : List UInt8) == vt1.data.toList) = (x == 49 && y == 49) := by
  show (([72, 84, 84, 80, 47, x, 46, y] : List UInt8) == [72, 84, 84, 80, 47, 49, 46, 49]) = _
  simp
 rw [show (⟨([72, 84, 84, 80, 47, x, 46, y] : List UInt8).toArray⟩ : ByteArray).data.toList = [72, 84, 84, 80, 47, x, 46, y] from rfl, e0, e1]
 have k49 : (49 : UInt8).toNat = 49 := rfl
 have k48 : (48 : UInt8).toNat = 48 := rfl
 by_cases hx1 : x = 49
 · subst hx1
   by_cases hy0 : y = 48
   · subst hy0
     rfl
   by_cases hy1 : y = 49
   · subst hy1
     rfl
   have n0 : y.toNat ≠ 48 := fun e => hy0 (UInt8.toNat_inj.1 (by omega))
   have n1 : y.toNat ≠ 49 := fun e => hy1 (UInt8.toNat_inj.1 (by omega))
   rw [if_neg (by simp [hy0]), if_neg (by simp [hy1]), if_neg (by omega)]
 have n0 : x.toNat ≠ 49 := fun e => hx1 (UInt8.toNat_inj.1 (by omega))
 rw [if_neg (by simp [hx1]), if_neg (by simp [hx1]), if_neg (by omega)]
theorem rql_three {l a b d : List UInt8} (h : pcs 32 l = [a, b, d]) : rql l = if (tok a && (tgt b && vok d)) = false then .error 3 else if mtk ⟨a.toArray⟩ = false then .error 10 else if (vrs d).1 = 1 ∧ (vrs d).2 ≤ 1 then .ok (a, b, (vrs d).2) else .error 4 := by
 rcases cut_cases 32 l with ⟨hn, _⟩ | ⟨a', l', hn, rfl, hc⟩
 · rw [pcs_no hn] at h; cases h
 rw [pcs_cut _ hn] at h
 injection h with h0 h
 subst h0
 rcases cut_cases 32 l' with ⟨hn', _⟩ | ⟨b', d', hn', rfl, hc'⟩
 · rw [pcs_no hn'] at h; cases h
 rw [pcs_cut _ hn'] at h
 injection h with h0 h
 subst h0
 have hd : d' = d := by
  rcases cut_cases 32 d' with ⟨hn2, _⟩ | ⟨x, y, hn2, rfl, _⟩
  · rw [pcs_no hn2] at h
    injection h
  rw [pcs_cut _ hn2] at h
  injection h with _ h
  exact absurd h (pcs_ne 32 y)
 subst hd
 have e1 : c1 32 (a' ++ 32 :: (b' ++ 32 :: d')) = a' := by unfold c1; rw [hc]
 have e2 : c2 32 (a' ++ 32 :: (b' ++ 32 :: d')) = b' ++ 32 :: d' := by unfold c2; rw [hc]
 have e3 : c1 32 (b' ++ 32 :: d') = b' := by unfold c1; rw [hc']
 have e4 : c2 32 (b' ++ 32 :: d') = d' := by unfold c2; rw [hc']
 unfold rql
 rw [e1, e2, e3, e4]
 by_cases hb : (tok a' && (tgt b' && vok d')) = false
 · rw [if_pos hb, if_pos hb]
 rw [if_neg hb, if_neg hb]
 by_cases hm : mtk ⟨a'.toArray⟩ = false
 · rw [if_pos hm, if_pos hm]
 rw [if_neg hm, if_neg hm, mno_vrs (by
  rw [Bool.not_eq_false, Bool.and_eq_true, Bool.and_eq_true] at hb
  exact hb.2.2)]
 by_cases hv : (vrs d').1 = 1 ∧ (vrs d').2 ≤ 1
 · rw [if_pos hv, if_pos hv]
 rw [if_neg hv, if_neg hv]
theorem rql_other {l : List UInt8} (h : (pcs 32 l).length ≠ 3) : rql l = .error 3 := by
 unfold rql
 rw [if_pos]
 have hcn : Go.Lib.cut [] [(32 : UInt8)] = ([], [], false) := by
  rcases cut_cases 32 [] with ⟨_, h⟩ | ⟨a, b, _, h, _⟩
  · exact h
  simp at h
 rcases cut_cases 32 l with ⟨hn, hc⟩ | ⟨a', l', hn, rfl, hc⟩
 · have e2 : c2 32 l = [] := by unfold c2; rw [hc]
   have e3 : c1 32 ([] : List UInt8) = [] := by unfold c1; rw [hcn]
   rw [e2, e3]
   simp [tgt]
 rw [pcs_cut _ hn] at h
 have e2 : c2 32 (a' ++ 32 :: l') = l' := by unfold c2; rw [hc]
 rw [e2]
 rcases cut_cases 32 l' with ⟨hn', hc'⟩ | ⟨b', d', hn', rfl, hc'⟩
 · have e4 : c2 32 l' = [] := by unfold c2; rw [hc']
   rw [e4, show vok [] = false by decide]
   simp
 rw [pcs_cut _ hn'] at h
 have e4 : c2 32 (b' ++ 32 :: d') = d' := by unfold c2; rw [hc']
 rw [e4]
 have hv : vok d' = false := by
  cases hv : vok d' with
  | false => rfl
  | true =>
   rw [pcs_no (vok_32 hv)] at h
   exact absurd rfl h
 rw [hv]
 simp
def hoN : ByteArray := ⟨#[104, 111, 115, 116]⟩
theorem ish_lws (f : FD) : ish f = (lws f.n.data.toList == hoN.data.toList) := by
 unfold ish kdf kdp
 generalize lws f.n.data.toList = x
 by_cases h1 : x = lws (kdT.getD 0 (⟨#[]⟩, 0)).1.data.toList
 · subst h1; decide +kernel
 by_cases h2 : x = lws (kdT.getD 1 (⟨#[]⟩, 0)).1.data.toList
 · subst h2; decide +kernel
 by_cases h3 : x = lws (kdT.getD 2 (⟨#[]⟩, 0)).1.data.toList
 · subst h3; decide +kernel
 by_cases h4 : x = lws (kdT.getD 3 (⟨#[]⟩, 0)).1.data.toList
 · subst h4; decide +kernel
 have e1 : lws (kdT.getD 0 (⟨#[]⟩, 0)).1.data.toList = hoN.data.toList := by decide +kernel
 have hf : kdT.find? (fun p => lws p.1.data.toList == x) = none := by
  rw [List.find?_eq_none]
  intro p hp
  rw [beq_iff_eq]
  intro e
  have hk : kdT = [kdT.getD 0 (⟨#[]⟩, 0), kdT.getD 1 (⟨#[]⟩, 0), kdT.getD 2 (⟨#[]⟩, 0), kdT.getD 3 (⟨#[]⟩, 0)] := rfl
  rw [hk] at hp
  simp only [List.mem_cons, List.not_mem_nil, or_false] at hp
  rcases hp with rfl | rfl | rfl | rfl
  · exact h1 e.symm
  · exact h2 e.symm
  · exact h3 e.symm
  exact h4 e.symm
 rw [e1] at h1
 rw [hf]
 simp [h1]
theorem alv_ho (fs : List FD) : (alv fs hoN).length = fs.countP ish ∧ (alv fs hoN).all (fun v => hst v.data.toList) = fs.all okh := by
 induction fs with
 | nil => exact ⟨rfl, rfl⟩
 | cons f r ih =>
  have e : alv (f :: r) hoN = (if ish f = true then [f.v] else []) ++ alv r hoN := by
   unfold alv
   rw [List.filter_cons, ish_lws]
   split <;> simp_all
  rw [e, List.countP_cons, List.length_append, ih.1, List.all_append, ih.2, List.all_cons]
  unfold okh
  cases hf : ish f with
  | true => simp; omega
  | false => simp
theorem ckN_ho (fs : List FD) (mi : Int) : ckN (ckh fs mi) = if 1 < (alv fs hoN).length ∨ ((alv fs hoN).length = 0 ∧ mi = 1) then 144 else if (alv fs hoN).all (fun v => hst v.data.toList) = true then 0 else 144 := by
 obtain ⟨h1, h2⟩ := alv_ho fs
 rw [h1, h2]
 unfold ckh
 cases ha : fs.all okh with
 | false =>
  rw [if_pos rfl]
  split
  · rfl
  rfl
 | true =>
  rw [if_neg (by simp)]
  split
  · rfl
  rfl
theorem ca_any (ch : List UInt8) : ∀ l : List UInt8, Go.Lib.containsAny l ch = l.any ch.contains
 | [] => rfl
 | b :: l => by
  have ih := ca_any ch l
  unfold Go.Lib.containsAny at ih ⊢
  have hg := Go.Lib.indexAny_ge ch l
  rw [List.any_cons, ← ih, Go.Lib.indexAny]
  cases hb : ch.contains b with
  | true => simp
  | false =>
   rw [if_neg (by simp)]
   by_cases h : Go.Lib.indexAny l ch = -1
   · rw [h]; rfl
   rw [if_neg (by simpa using h), decide_eq_true (show 0 ≤ Go.Lib.indexAny l ch + 1 by omega), decide_eq_true (show 0 ≤ Go.Lib.indexAny l ch by omega)]
   rfl
set_option maxRecDepth 100000 in
set_option maxHeartbeats 4000000 in
theorem Rhost_walk (a : Option Addr) (fs : List FD) (c : Nat) (mi : Int) (w : World) (h : FdL w a fs c) (hl : szs fs ≤ 1048576) :
  Calls Tryz.prog 50 #[.slice a fs.length c, .int .i64 mi] w fun e w' => e = .returned (.int .i64 (ckN (ckh fs mi))) ∧ Up w w' := by
 have HA := Ho (Rall_walk a fs c hoN w h (by omega))
 have HM := Ho (show ∀ v ∈ alv fs hoN, v.size ≤ 1048576 from fun v hv => by
  obtain ⟨f, hf, rfl⟩ := List.mem_map.1 hv
  have := szs_mem fs (List.mem_filter.1 hf).1
  omega)
 have hll : (alv fs hoN).length ≤ 1048576 := by
  have h1 := szs_len fs
  have h2 := List.countP_le_length (p := ish) (l := fs)
  rw [(alv_ho fs).1]
  omega
 obtain ⟨rv, hrv⟩ := ny (ckN (ckh fs mi))
 have HR := Ho (ckN_ho fs mi)
 rw [hrv] at HR ⊢
 clear hrv h
 obtain ⟨vs', hvs⟩ := ny (alv fs hoN)
 rw [hvs] at HA HM HR hll
 clear hvs
 obtain ⟨n, hn⟩ := ny vs'.length
 have HN := Ho hn
 rw [hn] at HA HR hll
 clear hn
 go_enter Tryz.func50, Tryz.ntmps50
 go_wp2_with fail
 refine HA.o.mono ?_
 rintro e w2 ⟨⟨a2, c2, rfl, hO⟩, h9⟩
 have HU2 := Ho h9
 have HS := Ho hO.o.stl
 have hcap := hO.o.stl.cap
 rw [HN.o] at hcap
 clear hO h9 HA
 dsimp only
 by_cases h1 : 1 < n
 · have h1z : (1 : Int) < (n : Int) := by omega
   have HE := Ho (show rv = 144 by rw [HR.o, if_pos (.inl h1)])
   go_wp2
   go_ret
   rw [HE.o]
   exact ⟨rfl, HU2.o⟩
 have h1z : ¬ (1 : Int) < (n : Int) := by omega
 by_cases h0 : n = 0 ∧ mi = 1
 · have z1 : ((n : Int) == 0) = true := by rw [h0.1]; rfl
   have z2 : (mi == 1) = true := by rw [h0.2]; rfl
   have HE := Ho (show rv = 144 by rw [HR.o, if_pos (.inr h0)])
   clear h0
   go_wp2
   go_ret
   rw [HE.o]
   exact ⟨rfl, HU2.o⟩
 have HR2 := Ho (show rv = if vs'.all (fun v => hst v.data.toList) = true then 0 else 144 by rw [HR.o, if_neg (fun h => h.elim h1 h0)])
 have hcond : ((n : Int) == 0) = false ∨ (((n : Int) == 0) = true ∧ (mi == 1) = false) := by
  by_cases hz : n = 0
  · right
    refine ⟨by rw [hz]; rfl, ?_⟩
    rw [beq_eq_false_iff_ne]
    exact fun e => h0 ⟨hz, e⟩
  left
  rw [beq_eq_false_iff_ne]
  omega
 clear h0 HR
 rcases hcond with z1 | ⟨z1, z2⟩
 all_goals
  go_wp2
  go_loopw [6] (fun v6 wr => ∃ i : Nat, v6 = .int .i64 (i : Int) ∧ i ≤ n ∧ Hd (Up w2 wr ∧ (vs'.take i).all (fun v => hst v.data.toList) = true)) (fun v6 _ => n - (intOf v6).toNat)
  case atStart => exact ⟨0, rfl, Nat.zero_le _, Ho ⟨Up.refl _, rfl⟩⟩
  case round =>
   obtain ⟨i, rfl, hi, hU⟩ := hrel
   have HU := Ho hU.o
   clear hU
   by_cases hil : i < n
   · have hilz : (i : Int) < (n : Int) := by omega
     have hil2 : i < vs'.length := by rw [HN.o]; exact hil
     obtain ⟨b, off, rfl, k1⟩ := HS.o.cells i hil2
     have HT := Ho (show (vs'.take (i + 1)).all (fun v => hst v.data.toList) = ((vs'.take i).all (fun v => hst v.data.toList) && hst vs'[i].data.toList) by rw [List.take_succ_eq_append_getElem hil2, List.all_append]; simp)
     have hvz := HM.o _ (List.getElem_mem hil2)
     have HFl := Ho (show hst vs'[i].data.toList = false → rv = 144 from fun hb => by
      rw [HR2.o]
      have : vs'.all (fun v => hst v.data.toList) = false := List.all_eq_false.2 ⟨_, List.getElem_mem hil2, by rw [hb]; simp⟩
      rw [this]
      rfl)
     generalize vs'[i] = v at *
     have HK := Ho k1
     clear k1
     have c1 := HU.o.1.cell HK.o
     cases hem : v.toList.isEmpty with
     | true =>
      have hv0 : v.size = 0 := by
       rw [Go.Lib.toList_data] at hem
       rw [Go.Lib.size_eq, List.isEmpty_iff.1 hem]
       rfl
      have HY := Ho (show (vs'.take (i + 1)).all (fun v => hst v.data.toList) = true by
       rw [HT.o, HU.o.2]
       unfold hst
       rw [Go.Lib.toList_data] at hem
       rw [hem]
       rfl)
      have hv0z : ¬ (0 : Int) < (v.size : Int) := by omega
      go_wp2
      go_loopw [7] (fun v7 wr2 => ∃ j : Nat, v7 = .int .i64 (j : Int) ∧ j = 0 ∧ Hd (Up w2 wr2)) (fun _ _ => 0)
      case atStart => exact ⟨0, rfl, rfl, Ho HU.o.1⟩
      case round =>
       obtain ⟨j, rfl, rfl, hU3⟩ := hrel
       have HU3 := Ho hU3.o
       clear hU3 c1
       have c1 := HU3.o.cell HK.o
       go_wp2
       go_roundw
       all_goals first
        | exact ⟨i + 1, by go_num, by omega, Ho ⟨HU3.o, HY.o⟩⟩
        | (simp [intOf]; omega)
     | false =>
      have HV := Ho (show ∀ w, Calls Tryz.prog 47 #[.string v] w fun e w' => e = .returned (.bool (tgt v.data.toList)) ∧ Up w w' from fun w => Rvisible_walk v (by omega) w)
      have HH := Ho (show hst v.data.toList = (tgt v.data.toList && !v.data.toList.any nih.data.toList.contains) by
       unfold hst
       rw [← ca_any, ← Go.Lib.toList_data, hem]
       rfl)
      generalize hgt : tgt v.data.toList = bt at *
      clear hgt
      go_wp2_with fail
      refine (HV.o _).mono ?_
      rintro e w3 ⟨rfl, h9⟩
      have HU3 := Ho (show Up w2 w3 ∧ ((List.take i vs').all fun v => hst v.data.toList) = true from ⟨HU.o.1.trans h9, HU.o.2⟩)
      clear h9 HV HU c1
      dsimp only
      cases bt with
      | false =>
       have HE := Ho (show rv = 144 from HFl.o (by rw [HH.o]; rfl))
       go_wp2
       go_ret
       rw [HE.o]
       exact ⟨rfl, HU2.o.trans HU3.o.1⟩
      | true =>
       have HC := Ho (show v.size = v.data.toList.length from Go.Lib.size_eq v)
       have HG := Ho (show ∀ w c, Calls Tryz.prog 94 #[.string nih, vb c] w fun e w' => e = .returned (.bool (nih.data.toList.contains c)) ∧ w' = w from fun w c => Ramong_walk nih c (by decide) w)
       go_wp2
       go_loopw [7] (fun v7 wr => ∃ j : Nat, v7 = .int .i64 (j : Int) ∧ j ≤ v.size ∧ Hd (Up w2 wr ∧ ∀ x ∈ v.data.toList.take j, nih.data.toList.contains x = false)) (fun v7 _ => v.size - (intOf v7).toNat)
       case atStart => exact ⟨0, rfl, Nat.zero_le _, Ho ⟨HU3.o.1, by simp⟩⟩
       case round =>
        obtain ⟨j, rfl, hj, hU4⟩ := hrel
        have HU4 := Ho hU4.o
        clear hU4
        have c1 := HU4.o.1.cell HK.o
        by_cases hjl : j < v.size
        · have hjlz : (j : Int) < (v.size : Int) := by omega
          have hg := sget' v j hjl
          have hjj : j < v.data.toList.length := by rw [← HC.o]; exact hjl
          have HQ := Ho (List.take_succ_eq_append_getElem hjj)
          have HMm := Ho (List.getElem_mem hjj)
          generalize v.data.toList[j]'hjj = x at *
          clear hjj
          go_wp2_with fail
          refine (HG.o _ x).mono ?_
          rintro e w4 ⟨rfl, rfl⟩
          dsimp only
          cases hx : nih.data.toList.contains x with
          | true =>
           have HE := Ho (show rv = 144 from HFl.o (by
            rw [HH.o]
            have : v.data.toList.any nih.data.toList.contains = true := List.any_eq_true.2 ⟨x, HMm.o, hx⟩
            rw [this]
            rfl))
           go_wp2
           go_ret
           rw [HE.o]
           exact ⟨rfl, HU2.o.trans HU4.o.1⟩
          | false =>
           have HN2 := Ho (show ∀ y ∈ v.data.toList.take (j + 1), nih.data.toList.contains y = false by
            rw [HQ.o]
            intro y hy
            rw [List.mem_append, List.mem_singleton] at hy
            rcases hy with h | h
            · exact HU4.o.2 y h
            rw [h]; exact hx)
           go_wp2
           go_roundw
           all_goals first
            | exact ⟨j + 1, by go_num, by omega, Ho ⟨HU4.o.1, HN2.o⟩⟩
            | (simp [intOf]; omega)
        have hjlz : ¬ (j : Int) < (v.size : Int) := by omega
        have HY := Ho (show (vs'.take (i + 1)).all (fun v => hst v.data.toList) = true by
         rw [HT.o, HU3.o.2, HH.o]
         have h1 := HU4.o.2
         rw [List.take_of_length_le (by rw [← HC.o]; omega)] at h1
         have : v.data.toList.any nih.data.toList.contains = false := by
          rw [List.any_eq_false]
          intro x hx
          rw [h1 x hx]
          simp
         rw [this]
         rfl)
        go_wp2
        go_roundw
        all_goals first
         | exact ⟨i + 1, by go_num, by omega, Ho ⟨HU4.o.1, HY.o⟩⟩
         | (simp [intOf]; omega)
   have hilz : ¬ (i : Int) < (n : Int) := by omega
   have HE := Ho (show rv = 0 by
    have h1 := HU.o.2
    rw [List.take_of_length_le (by rw [HN.o]; omega)] at h1
    rw [HR2.o, if_pos h1])
   go_wp2
   go_ret
   rw [HE.o]
   exact ⟨rfl, HU2.o.trans HU.o.1⟩
theorem trm_front {b : UInt8} {l : List UInt8} (h : blk b = true) : trm (b :: l) = trm l := by
 rw [trm_def, trm_def, List.reverse_cons, List.dropWhile_append]
 split
 · rename_i he
   have e : l.reverse.dropWhile blk = [] := by simpa using he
   rw [e, List.dropWhile_cons, h]
   rfl
 rw [List.reverse_append]
 show (b :: (l.reverse.dropWhile blk).reverse).dropWhile blk = _
 rw [List.dropWhile_cons, h]
 rfl
theorem trm_back {b : UInt8} {l : List UInt8} (h : blk b = true) : trm (l ++ [b]) = trm l := by
 rw [trm_def, trm_def, List.reverse_append]
 show ((b :: l.reverse).dropWhile blk).reverse.dropWhile blk = _
 rw [List.dropWhile_cons, h]
 rfl
theorem blk_iff (b : UInt8) : blk b = (b == 32 || b == 9) := by
 unfold blk bks
 simp [List.contains, List.elem]
 cases (b == 32) <;> cases (b == 9) <;> rfl
theorem blk_yes32 {x : UInt8} (h : ((x.toNat : Int) == 32) = true) : blk x = true := by
 have h1 := eq_of_beq h
 have h2 : x = 32 := UInt8.toNat_inj.1 (by show x.toNat = 32; omega)
 rw [h2]
 decide
theorem blk_yes9 {x : UInt8} (h : ((x.toNat : Int) == 9) = true) : blk x = true := by
 have h1 := eq_of_beq h
 have h2 : x = 9 := UInt8.toNat_inj.1 (by show x.toNat = 9; omega)
 rw [h2]
 decide
theorem blk_no {x : UInt8} (h : ((x.toNat : Int) == 32) = false) (h9 : ((x.toNat : Int) == 9) = false) : blk x = false := by
 rw [blk_iff]
 rw [beq_eq_false_iff_ne] at h h9
 have a : (x == 32) = false := by rw [beq_eq_false_iff_ne]; rintro rfl; exact h rfl
 have b : (x == 9) = false := by rw [beq_eq_false_iff_ne]; rintro rfl; exact h9 rfl
 rw [a, b]
 rfl
theorem extr_drop (s : ByteArray) (k : Nat) : (s.extract k s.size).data.toList = s.data.toList.drop k := by
 have hz : s.size = s.data.toList.length := Go.Lib.size_eq s
 rw [ByteArray.data_extract, Array.toList_extract, List.extract_eq_drop_take', List.take_of_length_le (by rw [← hz]; exact Nat.le_refl _)]
theorem extr_take (s : ByteArray) (k : Nat) : (s.extract 0 k).data.toList = s.data.toList.take k := by
 rw [ByteArray.data_extract, Array.toList_extract, List.extract_eq_drop_take', List.drop_zero]
theorem emp_no {s : ByteArray} (h : 0 < s.size) : s.toList.isEmpty = false := by
 rw [Go.Lib.toList_data]
 rw [Go.Lib.size_eq] at h
 cases hl : s.data.toList with
 | nil => rw [hl] at h; simp at h
 | cons a b => rfl
theorem emp_yes {s : ByteArray} (h : s.size = 0) : s.toList.isEmpty = true := by
 rw [Go.Lib.toList_data]
 rw [Go.Lib.size_eq] at h
 rw [List.eq_nil_of_length_eq_zero h]
 rfl
set_option maxRecDepth 100000 in
set_option maxHeartbeats 2000000 in
theorem Rtrim_walk (s : ByteArray) (hs : s.size ≤ 1099511627776) (w : World) : Calls Tryz.prog 91 #[.string s] w fun e w' => e = .returned (vs (trm s.data.toList)) ∧ w' = w := by
 obtain ⟨r, hr⟩ := ny (trm s.data.toList)
 have HR := Ho hr
 rw [hr]
 clear hr
 go_enter Tryz.func91, Tryz.ntmps91
 go_wp2
 go_loopw [0] (fun v0 wr => ∃ s' : ByteArray, v0 = .string s' ∧ s'.size ≤ 1099511627776 ∧ Hd (wr = w ∧ trm s'.data.toList = r)) (fun v0 _ => szOf v0)
 case atStart => exact ⟨s, rfl, hs, Ho ⟨rfl, HR.o⟩⟩
 case round =>
  obtain ⟨s', rfl, hs', hQ⟩ := hrel
  have HQ := Ho hQ.o
  clear hQ HR
  have HZ := Ho (Go.Lib.size_eq s')
  by_cases h0 : 0 < s'.size
  · have h0z : (0 : Int) < (s'.size : Int) := by omega
    have hem : s'.toList.isEmpty = false := emp_no (by omega)
    have hg := sget' s' 0 h0
    have HE0 : s'.data.toList = s'.data.toList[0]'(by have := HZ.o; omega) :: s'.data.toList.drop 1 := by
     rw [List.getElem_cons_drop, List.drop_zero]
    generalize s'.data.toList[0]'(by have := HZ.o; omega) = x at hg HE0
    have HE := Ho HE0
    clear HE0
    cases h32 : ((x.toNat : Int) == 32) with
    | true =>
     have HBk := Ho (blk_yes32 h32)
     have HD := Ho (show trm (s'.extract 1 s'.size).data.toList = r by
      rw [extr_drop]
      have h1 := HQ.o.2
      rw [HE.o, trm_front HBk.o] at h1
      exact h1)
     have HSz := Ho (show (s'.extract 1 s'.size).size = s'.size - 1 by rw [ByteArray.size_extract]; omega)
     go_wp2
     go_roundw
     all_goals first
      | exact ⟨_, rfl, by rw [HSz.o]; omega, Ho ⟨HQ.o.1, HD.o⟩⟩
      | (show (s'.extract 1 s'.size).size < s'.size; rw [HSz.o]; omega)
      | (simp [szOf]; omega)
    | false =>
     cases h9 : ((x.toNat : Int) == 9) with
     | true =>
      have HBk := Ho (blk_yes9 h9)
      have HD := Ho (show trm (s'.extract 1 s'.size).data.toList = r by
       rw [extr_drop]
       have h1 := HQ.o.2
       rw [HE.o, trm_front HBk.o] at h1
       exact h1)
      have HSz := Ho (show (s'.extract 1 s'.size).size = s'.size - 1 by rw [ByteArray.size_extract]; omega)
      go_wp2
      go_roundw
      all_goals first
       | exact ⟨_, rfl, by rw [HSz.o]; omega, Ho ⟨HQ.o.1, HD.o⟩⟩
       | (show (s'.extract 1 s'.size).size < s'.size; rw [HSz.o]; omega)
       | (simp [szOf]; omega)
     | false =>
      have HD0 := Ho (show ∀ y, s'.data.toList.head? = some y → blk y = false by
       intro y hy
       rw [HE.o] at hy
       injection hy with hy
       rw [← hy]
       exact blk_no h32 h9)
      go_wp2
      go_loopw [0] (fun v0 wr => ∃ s2 : ByteArray, v0 = .string s2 ∧ s2.size ≤ 1099511627776 ∧ Hd (wr = w ∧ trm s2.data.toList = r ∧ ∀ x, s2.data.toList.head? = some x → blk x = false)) (fun v0 _ => szOf v0)
      case atStart => exact ⟨s', rfl, hs', Ho ⟨HQ.o.1, HQ.o.2, HD0.o⟩⟩
      case round =>
       obtain ⟨s2, rfl, hs2, hQ2⟩ := hrel
       have HQ2 := Ho hQ2.o
       clear hQ2
       by_cases h0 : 0 < s2.size
       · have h0z : (0 : Int) < (s2.size : Int) := by omega
         have hem : s2.toList.isEmpty = false := emp_no (by omega)
         have hg := sget' s2 (s2.size - 1) (by omega)
         have HZ2 := Ho (Go.Lib.size_eq s2)
         have HE0 : s2.data.toList = s2.data.toList.take (s2.size - 1) ++ [s2.data.toList[s2.size - 1]'(by have := HZ2.o; omega)] := by
          rw [← List.take_succ_eq_append_getElem, List.take_of_length_le (by have := HZ2.o; omega)]
         generalize s2.data.toList[s2.size - 1]'(by have := HZ2.o; omega) = x at hg HE0
         have HE := Ho HE0
         clear HE0
         have hsub : (s2.size : Int) - 1 = ((s2.size - 1 : Nat) : Int) := by omega
         cases h32 : ((x.toNat : Int) == 32) with
         | true =>
          have HBk := Ho (blk_yes32 h32)
          have HD := Ho (show trm (s2.extract 0 (s2.size - 1)).data.toList = r by
           rw [extr_take]
           have h1 := HQ2.o.2.1
           rw [HE.o, trm_back HBk.o] at h1
           exact h1)
          have HH := Ho (show ∀ x, (s2.extract 0 (s2.size - 1)).data.toList.head? = some x → blk x = false by
           intro y hy
           rw [extr_take] at hy
           refine HQ2.o.2.2 y ?_
           rw [HE.o]
           cases hl : s2.data.toList.take (s2.size - 1) with
           | nil => rw [hl] at hy; cases hy
           | cons a b => rw [hl] at hy; exact hy)
          have HSz := Ho (show (s2.extract 0 (s2.size - 1)).size = s2.size - 1 by rw [ByteArray.size_extract]; omega)
          go_wp2
          go_roundw
          all_goals first
           | exact ⟨_, rfl, by rw [HSz.o]; omega, Ho ⟨HQ2.o.1, HD.o, HH.o⟩⟩
           | (show s2.size - 0 = 0; omega)
           | (show (s2.extract 0 (s2.size - 1)).size < s2.size; rw [HSz.o]; omega)
           | (simp [szOf]; omega)
         | false =>
          cases h9 : ((x.toNat : Int) == 9) with
          | true =>
           have HBk := Ho (blk_yes9 h9)
           have HD := Ho (show trm (s2.extract 0 (s2.size - 1)).data.toList = r by
            rw [extr_take]
            have h1 := HQ2.o.2.1
            rw [HE.o, trm_back HBk.o] at h1
            exact h1)
           have HH := Ho (show ∀ x, (s2.extract 0 (s2.size - 1)).data.toList.head? = some x → blk x = false by
            intro y hy
            rw [extr_take] at hy
            refine HQ2.o.2.2 y ?_
            rw [HE.o]
            cases hl : s2.data.toList.take (s2.size - 1) with
            | nil => rw [hl] at hy; cases hy
            | cons a b => rw [hl] at hy; exact hy)
           have HSz := Ho (show (s2.extract 0 (s2.size - 1)).size = s2.size - 1 by rw [ByteArray.size_extract]; omega)
           go_wp2
           go_roundw
           all_goals first
            | exact ⟨_, rfl, by rw [HSz.o]; omega, Ho ⟨HQ2.o.1, HD.o, HH.o⟩⟩
            | (show s2.size - 0 = 0; omega)
            | (show (s2.extract 0 (s2.size - 1)).size < s2.size; rw [HSz.o]; omega)
            | (simp [szOf]; omega)
          | false =>
           have HT := Ho (show s2.data.toList = r by
            have h1 := HQ2.o.2.1
            rw [trm_id ⟨HQ2.o.2.2, fun y hy => ?_⟩] at h1
            · exact h1
            rw [HE.o, List.getLast?_concat] at hy
            injection hy with hy
            rw [← hy]
            exact blk_no h32 h9)
           go_wp2
           go_ret
           rw [← HT.o, vs_data']
           exact ⟨rfl, HQ2.o.1⟩
       have h0z : ¬ (0 : Int) < (s2.size : Int) := by omega
       have hem : s2.toList.isEmpty = true := emp_yes (by omega)
       have HT := Ho (show s2.data.toList = r by
        have h1 := HQ2.o.2.1
        have h2 : s2.data.toList = [] := List.eq_nil_of_length_eq_zero (by rw [← Go.Lib.size_eq]; omega)
        rw [h2] at h1 ⊢
        exact h1)
       go_wp2
       go_ret
       rw [← HT.o, vs_data']
       exact ⟨rfl, HQ2.o.1⟩
  have h0z : ¬ (0 : Int) < (s'.size : Int) := by omega
  have hem : s'.toList.isEmpty = true := emp_yes (by omega)
  have HD0 := Ho (show ∀ y, s'.data.toList.head? = some y → blk y = false by
   intro y hy
   rw [List.eq_nil_of_length_eq_zero (show s'.data.toList.length = 0 by have := HZ.o; omega)] at hy
   cases hy)
  go_wp2
  go_loopw [0] (fun v0 wr => ∃ s2 : ByteArray, v0 = .string s2 ∧ s2.size ≤ 1099511627776 ∧ Hd (wr = w ∧ trm s2.data.toList = r ∧ ∀ x, s2.data.toList.head? = some x → blk x = false)) (fun v0 _ => szOf v0)
  case atStart => exact ⟨s', rfl, hs', Ho ⟨HQ.o.1, HQ.o.2, HD0.o⟩⟩
  case round =>
   obtain ⟨s2, rfl, hs2, hQ2⟩ := hrel
   have HQ2 := Ho hQ2.o
   clear hQ2
   by_cases h0 : 0 < s2.size
   · have h0z : (0 : Int) < (s2.size : Int) := by omega
     have hem : s2.toList.isEmpty = false := emp_no (by omega)
     have hg := sget' s2 (s2.size - 1) (by omega)
     have HZ2 := Ho (Go.Lib.size_eq s2)
     have HE0 : s2.data.toList = s2.data.toList.take (s2.size - 1) ++ [s2.data.toList[s2.size - 1]'(by have := HZ2.o; omega)] := by
      rw [← List.take_succ_eq_append_getElem, List.take_of_length_le (by have := HZ2.o; omega)]
     generalize s2.data.toList[s2.size - 1]'(by have := HZ2.o; omega) = x at hg HE0
     have HE := Ho HE0
     clear HE0
     have hsub : (s2.size : Int) - 1 = ((s2.size - 1 : Nat) : Int) := by omega
     cases h32 : ((x.toNat : Int) == 32) with
     | true =>
      have HBk := Ho (blk_yes32 h32)
      have HD := Ho (show trm (s2.extract 0 (s2.size - 1)).data.toList = r by
       rw [extr_take]
       have h1 := HQ2.o.2.1
       rw [HE.o, trm_back HBk.o] at h1
       exact h1)
      have HH := Ho (show ∀ x, (s2.extract 0 (s2.size - 1)).data.toList.head? = some x → blk x = false by
       intro y hy
       rw [extr_take] at hy
       refine HQ2.o.2.2 y ?_
       rw [HE.o]
       cases hl : s2.data.toList.take (s2.size - 1) with
       | nil => rw [hl] at hy; cases hy
       | cons a b => rw [hl] at hy; exact hy)
      have HSz := Ho (show (s2.extract 0 (s2.size - 1)).size = s2.size - 1 by rw [ByteArray.size_extract]; omega)
      go_wp2
      go_roundw
      all_goals first
       | exact ⟨_, rfl, by rw [HSz.o]; omega, Ho ⟨HQ2.o.1, HD.o, HH.o⟩⟩
       | (show s2.size - 0 = 0; omega)
       | (show (s2.extract 0 (s2.size - 1)).size < s2.size; rw [HSz.o]; omega)
       | (simp [szOf]; omega)
     | false =>
      cases h9 : ((x.toNat : Int) == 9) with
      | true =>
       have HBk := Ho (blk_yes9 h9)
       have HD := Ho (show trm (s2.extract 0 (s2.size - 1)).data.toList = r by
        rw [extr_take]
        have h1 := HQ2.o.2.1
        rw [HE.o, trm_back HBk.o] at h1
        exact h1)
       have HH := Ho (show ∀ x, (s2.extract 0 (s2.size - 1)).data.toList.head? = some x → blk x = false by
        intro y hy
        rw [extr_take] at hy
        refine HQ2.o.2.2 y ?_
        rw [HE.o]
        cases hl : s2.data.toList.take (s2.size - 1) with
        | nil => rw [hl] at hy; cases hy
        | cons a b => rw [hl] at hy; exact hy)
       have HSz := Ho (show (s2.extract 0 (s2.size - 1)).size = s2.size - 1 by rw [ByteArray.size_extract]; omega)
       go_wp2
       go_roundw
       all_goals first
        | exact ⟨_, rfl, by rw [HSz.o]; omega, Ho ⟨HQ2.o.1, HD.o, HH.o⟩⟩
        | (show s2.size - 0 = 0; omega)
        | (show (s2.extract 0 (s2.size - 1)).size < s2.size; rw [HSz.o]; omega)
        | (simp [szOf]; omega)
      | false =>
       have HT := Ho (show s2.data.toList = r by
        have h1 := HQ2.o.2.1
        rw [trm_id ⟨HQ2.o.2.2, fun y hy => ?_⟩] at h1
        · exact h1
        rw [HE.o, List.getLast?_concat] at hy
        injection hy with hy
        rw [← hy]
        exact blk_no h32 h9)
       go_wp2
       go_ret
       rw [← HT.o, vs_data']
       exact ⟨rfl, HQ2.o.1⟩
   have h0z : ¬ (0 : Int) < (s2.size : Int) := by omega
   have hem : s2.toList.isEmpty = true := emp_yes (by omega)
   have HT := Ho (show s2.data.toList = r by
    have h1 := HQ2.o.2.1
    have h2 : s2.data.toList = [] := List.eq_nil_of_length_eq_zero (by rw [← Go.Lib.size_eq]; omega)
    rw [h2] at h1 ⊢
    exact h1)
   go_wp2
   go_ret
   rw [← HT.o, vs_data']
   exact ⟨rfl, HQ2.o.1⟩
def clw : ByteArray := ⟨#[99, 111, 110, 116, 101, 110, 116, 45, 108, 101, 110, 103, 116, 104]⟩
def tew : ByteArray := ⟨#[116, 114, 97, 110, 115, 102, 101, 114, 45, 101, 110, 99, 111, 100, 105, 110, 103]⟩
theorem kep_lws (f : FD) : kep f = !(lws f.n.data.toList == clw.data.toList || lws f.n.data.toList == tew.data.toList) := by
 unfold kep kdf kdp
 generalize lws f.n.data.toList = x
 by_cases h1 : x = lws (kdT.getD 0 (⟨#[]⟩, 0)).1.data.toList
 · subst h1; decide +kernel
 by_cases h2 : x = lws (kdT.getD 1 (⟨#[]⟩, 0)).1.data.toList
 · subst h2; decide +kernel
 by_cases h3 : x = lws (kdT.getD 2 (⟨#[]⟩, 0)).1.data.toList
 · subst h3; decide +kernel
 by_cases h4 : x = lws (kdT.getD 3 (⟨#[]⟩, 0)).1.data.toList
 · subst h4; decide +kernel
 have e3 : lws (kdT.getD 2 (⟨#[]⟩, 0)).1.data.toList = tew.data.toList := by decide +kernel
 have e4 : lws (kdT.getD 3 (⟨#[]⟩, 0)).1.data.toList = clw.data.toList := by decide +kernel
 have hf : kdT.find? (fun p => lws p.1.data.toList == x) = none := by
  rw [List.find?_eq_none]
  intro p hp
  rw [beq_iff_eq]
  intro e
  have hk : kdT = [kdT.getD 0 (⟨#[]⟩, 0), kdT.getD 1 (⟨#[]⟩, 0), kdT.getD 2 (⟨#[]⟩, 0), kdT.getD 3 (⟨#[]⟩, 0)] := rfl
  rw [hk] at hp
  simp only [List.mem_cons, List.not_mem_nil, or_false] at hp
  rcases hp with rfl | rfl | rfl | rfl
  · exact h1 e.symm
  · exact h2 e.symm
  · exact h3 e.symm
  exact h4 e.symm
 rw [e3] at h3
 rw [e4] at h4
 rw [hf]
 simp [h3, h4]
def tld (fs : List FD) (len : Int) : List FD := if 0 ≤ len then pfs fs ++ [lnf len.toNat] else pfs fs
set_option maxRecDepth 100000 in
set_option maxHeartbeats 2000000 in
theorem Rprinted_walk (a : Option Addr) (fs : List FD) (c : Nat) (len : Int) (w : World) (h : FdL w a fs c) (hl : szs fs ≤ 1099511627776) (hlen : len ≤ 1099511627776) (hlen0 : -1 ≤ len) :
  Calls Tryz.prog 43 #[.slice a fs.length c, .int .i64 len] w fun e w' => (∃ a2 c2, e = .returned (.slice a2 (tld fs len).length c2) ∧ Hd (RfO w' w.heap.size a2 (tld fs len) c2)) ∧ Up w w' := by
 have HF := Ho h
 have hcap := h.cap
 have hsl := szs_len fs
 have HZ := Ho (fun i => Nat.le_trans (szs_take fs i) hl)
 clear h hl
 have hfl : fs.length ≤ 1099511627776 := by have := HZ.o fs.length; rw [List.take_length] at this; omega
 clear hsl
 go_enter Tryz.func43, Tryz.ntmps43
 go_wp2
 go_loopw [5, 6] (fun v5 v6 wr => ∃ i : Nat, v6 = .int .i64 (i : Int) ∧ i ≤ fs.length ∧ ∃ q a7 c7, v5 = .slice a7 q c7 ∧ q ≤ i ∧ Hd (RfO wr w.heap.size a7 (pfs (fs.take i)) c7 ∧ Up w wr ∧ (pfs (fs.take i)).length = q)) (fun _ v6 _ => fs.length - (intOf v6).toNat)
 case atStart => exact ⟨0, rfl, Nat.zero_le _, 0, none, 0, rfl, Nat.le_refl _, Ho ⟨World.ownsRow_nil _ _ _ _, Up.refl _, rfl⟩⟩
 case round =>
  obtain ⟨i, rfl, hi, q, a7, c7, rfl, hqi, hU⟩ := hrel
  have HQ := Ho hU.o
  clear hU
  by_cases hil : i < fs.length
  · have hilz : (i : Int) < (fs.length : Int) := by omega
    obtain ⟨b, off, rfl, k1, k2⟩ := HF.o.cells i hil
    have HT := Ho (List.take_succ_eq_append_getElem hil)
    obtain ⟨f, hf⟩ := ny (fs[i])
    rw [hf] at k1 k2 HT
    have HK1 := Ho k1
    have HK2 := Ho k2
    have h5 := HZ.o (i + 1)
    rw [HT.o, szs_snoc] at h5
    unfold szf at h5
    have hfv : f.v.size ≤ 1099511627776 := by omega
    have hfn : f.n.size ≤ 1099511627776 := by omega
    have HLn := Ho HQ.o.2.2
    have k3 := HQ.o.2.1.cell k1
    clear hf k1 k2 h5
    go_wp2_with (with_reducible refine sI 54 ?_)
    show wpList _ _ _ _ _ _
    refine wpList_val7 (.pointer (some ⟨b, off + i * 2, none⟩)) rfl (exec_idxRf i hil rfl rfl rfl) ?_
    simp only [Act.put, pB, pC, pD]
    go_wp2_with fail
    refine (lowerL_walk f.n wr hfn).mono ?_
    rintro e w4 ⟨rfl, u5⟩
    have HU4 := Ho (HQ.o.2.1.trans u5)
    have HO4 := Ho (ow_up HQ.o.1 u5)
    clear u5 HQ k3
    have HNm0 : (⟨(lws f.n.data.toList).toArray⟩ : ByteArray).data.toList = lws f.n.data.toList := rfl
    generalize (⟨(lws f.n.data.toList).toArray⟩ : ByteArray) = nm at HNm0 ⊢
    have HNm := Ho HNm0
    clear HNm0
    dsimp only
    have e1 : (nm.toList == [99, 111, 110, 116, 101, 110, 116, 45, 108, 101, 110, 103, 116, 104]) = (nm.data.toList == clw.data.toList) := by rw [Go.Lib.toList_data]; rfl
    have e2 : (nm.toList == [116, 114, 97, 110, 115, 102, 101, 114, 45, 101, 110, 99, 111, 100, 105, 110, 103]) = (nm.data.toList == tew.data.toList) := by rw [Go.Lib.toList_data]; rfl
    cases h3 : (nm.data.toList == clw.data.toList) with
    | true =>
     rw [h3] at e1
     clear e2
     have HS7 := Ho (show pfs (fs.take (i + 1)) = pfs (fs.take i) by rw [HT.o, pfs_no (by rw [kep_lws, ← HNm.o]; simp [h3])])
     have HO8 := Ho (show RfO w4 w.heap.size a7 (pfs (fs.take (i + 1))) c7 by rw [HS7.o]; exact HO4.o)
     have HL8 := Ho (show (pfs (fs.take (i + 1))).length = q by rw [HS7.o]; exact HLn.o)
     go_wp2
     go_roundw
     all_goals first
      | exact ⟨i + 1, by go_num, by omega, q, a7, c7, rfl, by omega, Ho ⟨HO8.o, HU4.o, HL8.o⟩⟩
      | (simp [intOf]; omega)
    | false =>
     rw [h3] at e1
     cases h4 : (nm.data.toList == tew.data.toList) with
     | true =>
      rw [h4] at e2
      have HS7 := Ho (show pfs (fs.take (i + 1)) = pfs (fs.take i) by rw [HT.o, pfs_no (by rw [kep_lws, ← HNm.o]; simp [h3, h4])])
      have HO8 := Ho (show RfO w4 w.heap.size a7 (pfs (fs.take (i + 1))) c7 by rw [HS7.o]; exact HO4.o)
      have HL8 := Ho (show (pfs (fs.take (i + 1))).length = q by rw [HS7.o]; exact HLn.o)
      go_wp2
      go_roundw
      all_goals first
       | exact ⟨i + 1, by go_num, by omega, q, a7, c7, rfl, by omega, Ho ⟨HO8.o, HU4.o, HL8.o⟩⟩
       | (simp [intOf]; omega)
     | false =>
      rw [h4] at e2
      have HT2 := Ho (show pfs (fs.take (i + 1)) = pfs (fs.take i) ++ [tfd f] by rw [HT.o, pfs_yes (by rw [kep_lws, ← HNm.o]; simp [h3, h4])])
      have HL7 := Ho (show (pfs (fs.take (i + 1))).length = q + 1 by rw [HT2.o, List.length_append, HLn.o]; rfl)
      go_wp2
      refine wp_region_held_drew (S := fun w2 => Up w w2) (by kernel_rfl) HU4.o.drew (fun hS => ?_)
      refine tN 0 (some 26) (.move (.tmp 5)) 54 (.slice a7 q c7) hS ?_
      simp only [pA, pB, pC, pD]
      refine tN 1 (some 27) (.move (.tmp 0)) 54 (.slice (some ⟨b, off, none⟩) fs.length c) hS ?_
      simp only [pA, pB, pC, pD]
      refine tN 2 (some 28) (.move (.tmp 6)) 3 (.int .i64 (i : Int)) hS ?_
      simp only [pA, pB, pC, pD]
      refine tK 3 (some 29) (.indexAddr 54 (.tmp 27) (.tmp 28)) 0 (.pointer (some ⟨b, off + i * 2, none⟩)) hS ?_ ?_
      · intro _ _ w5 hSw
        clear hSw hS
        exact exec_idxRf i hil rfl rfl rfl
      simp only [pA, pB, pC, pD]
      refine tN 4 (some 30) (.fieldAddr 102 (.tmp 29) 0) 0 (.pointer (some ⟨b, off + i * 2, none⟩)) hS ?_
      simp only [pA, pB, pC, pD]
      refine tK 5 (some 31) (.load 9 (.tmp 30)) 9 (.string f.n) hS ?_ ?_
      · intro _ _ w5 hSw
        have h0 := hSw.cell HK1.o
        clear hSw hS
        go_simp
      simp only [pA, pB, pC, pD]
      refine tN 6 (some 32) (.move (.tmp 0)) 54 (.slice (some ⟨b, off, none⟩) fs.length c) hS ?_
      simp only [pA, pB, pC, pD]
      refine tN 7 (some 33) (.move (.tmp 6)) 3 (.int .i64 (i : Int)) hS ?_
      simp only [pA, pB, pC, pD]
      refine tK 8 (some 34) (.indexAddr 54 (.tmp 32) (.tmp 33)) 0 (.pointer (some ⟨b, off + i * 2, none⟩)) hS ?_ ?_
      · intro _ _ w5 hSw
        clear hSw hS
        exact exec_idxRf i hil rfl rfl rfl
      simp only [pA, pB, pC, pD]
      refine tN 9 (some 35) (.fieldAddr 102 (.tmp 34) 1) 0 (.pointer (some ⟨b, off + i * 2 + 1, none⟩)) hS ?_
      simp only [pA, pB, pC, pD]
      refine tK 10 (some 36) (.load 9 (.tmp 35)) 9 (.string f.v) hS ?_ ?_
      · intro _ _ w5 hSw
        have h0 := hSw.cell HK2.o
        clear hSw hS
        go_simp
      simp only [pA, pB, pC, pD]
      refine rD 11 (some 37) (.call ⟨.value (.func 91), #[.tmp 36], #[9]⟩) 9 fun _ _ K hK => ?_
      rw [if_pos (by kernel_rfl)]
      go_simp
      refine (Rtrim_walk f.v hfv w4.drew).mono ?_
      rintro e w6 ⟨rfl, h9⟩
      obtain rfl := h9.symm
      have HVt := Ho (show vs (trm f.v.data.toList) = .string (tfd f).v from rfl)
      clear h9
      rw [HVt.o]
      dsimp only
      refine hK.out _ _ hS (fun hS => ?_)
      clear hK K
      refine tN 12 (some 38) (.build 102 #[(0, .tmp 31), (1, .tmp 37)]) 102 (.agg #[.string f.n, .string (tfd f).v]) hS ?_
      simp only [Act.put, pB, pC, pD]
      refine rD 13 (some 39) (.buildSlice 54 1 #[(0, .tmp 38)]) 54 fun _ _ K hK => ?_
      rw [if_pos (by kernel_rfl)]
      go_simp
      refine hK.out _ _ (hS.alloc _) (fun hS => ?_)
      clear hK K
      refine rD 14 (some 40) (.call ⟨.builtin .append, #[.tmp 26, .tmp 39], #[54, 54]⟩) 54 fun _ _ K hK => oper_of_list ?_
      refine wpList_appRf (w := w4.drew) (N := w.heap.size) rfl _ _ rfl a7 c7 (pfs (fs.take i)) (tfd f) HLn.o rfl rfl (ow_up HO4.o (Up.refl _).drew) HU4.o.drew.size (by omega) ?_
      intro ax2 cx2 w7 o7 u7 g7
      have HO7 := Ho (show RfO w7 w.heap.size ax2 (pfs (fs.take (i + 1))) cx2 by rw [HT2.o]; exact o7)
      have HU7 := Ho (u7 w HU4.o.drew (Nat.le_refl _))
      clear o7 u7 g7
      refine hK.out _ _ HU7.o (fun hS => ?_)
      clear hK K
      simp only [Act.put, pB, pC, pD]
      refine tN 15 (some 5) (.assign (.tmp 40)) 54 (.slice ax2 (q + 1) cx2) hS ?_
      simp only [pA, pB, pC, pD]
      clear hS
      refine wpAnyH_done (by kernel_rfl) ?_ _
      go_wp2
      go_roundw
      all_goals first
       | exact ⟨i + 1, by go_num, by omega, q + 1, ax2, cx2, rfl, by omega, Ho ⟨HO7.o, HU7.o, HL7.o⟩⟩
       | (simp [intOf]; omega)
  have hilz : ¬ (i : Int) < (fs.length : Int) := by omega
  have HTk := Ho (show fs.take i = fs from List.take_of_length_le (by omega))
  rw [HTk.o] at HQ
  by_cases hl0 : 0 ≤ len
  · have HTl := Ho (show tld fs len = pfs fs ++ [lnf len.toNat] by unfold tld; rw [if_pos hl0])
    have HLf := Ho (show vs (Go.Lib.itoa len) = .string (lnf len.toNat).v by unfold lnf; rw [Int.toNat_of_nonneg hl0])
    go_wp2_with fail
    refine (RFormatNumber_walk len (by omega) (by omega) wr).mono ?_
    rintro e w3 ⟨rfl, h9⟩
    have HU3 := Ho (HQ.o.2.1.trans h9)
    have HO3 := Ho (ow_up HQ.o.1 h9)
    clear h9
    rw [HLf.o]
    dsimp only
    go_wp2_with (with_reducible refine sA ?_)
    show wpList _ _ _ _ _ _
    refine wpList_appRf (w := w3) (N := w.heap.size) rfl _ _ rfl a7 c7 (pfs fs) (lnf len.toNat) HQ.o.2.2 rfl rfl HO3.o HU3.o.size (by omega) ?_
    intro a4 c4 w4 o4 u4 _
    have HU4 := Ho (u4 w HU3.o (Nat.le_refl _))
    have HO4 := Ho o4
    clear o4 u4
    simp only [Act.put, pB, pC, pD]
    go_wp2
    go_ret
    rw [HTl.o]
    exact ⟨⟨a4, c4, by rw [List.length_append, HQ.o.2.2]; rfl, Ho HO4.o⟩, HU4.o⟩
  have HTl := Ho (show tld fs len = pfs fs by unfold tld; rw [if_neg hl0])
  go_wp2
  go_ret
  rw [HTl.o]
  exact ⟨⟨a7, c7, by rw [HQ.o.2.2]; rfl, Ho HQ.o.1⟩, HQ.o.2.1⟩
end Go.Proofs.YtehnnlhoajdcaaaGreatDoor
