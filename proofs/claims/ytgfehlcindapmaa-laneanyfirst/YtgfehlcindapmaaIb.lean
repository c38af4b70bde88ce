import Derived.Test.YtgfehlcindapmaaIa
import Derived.Test.YtgfehlcindapmaaGa
namespace Go.Proofs.Ytgfehlcindapmaa
open Go.RowKit Go.Conc TextNum
/-- eight lanes: on each of js its number waits -/
def XA (t : Nat) (js : List Nat) : AN := ⟨t, [], (List.range 8).map fun i => (if i ∈ js then [[UInt8.ofNat i]] else [], false), []⟩
theorem XA_get (t : Nat) (js : List Nat) {k : Nat} (h : k < 8) : (XA t js).ls[k]? = some (if k ∈ js then [[UInt8.ofNat k]] else [], false) := by
  unfold XA
  rw [List.getElem?_map, List.getElem?_range h]
  rfl
theorem XA_len (t : Nat) (js : List Nat) : (XA t js).ls.length = 8 := by simp [XA]
theorem XA_out (t : Nat) (js : List Nat) {k : Nat} (h : ¬ k < 8) : (XA t js).ls[k]? = none := List.getElem?_eq_none (by rw [XA_len]; omega)
theorem XA_new : XA 0 [] = ⟨0, [], List.replicate 8 ([], false), []⟩ := rfl
theorem sendX (t : Nat) (js : List Nat) (k : Nat) (d : List UInt8) : SendA (XA t js) k d = putA (XA t js) k d := by
  unfold SendA nextA sendA postA
  rfl
theorem XA_send (t : Nat) (js : List Nat) {k : Nat} (h : k < 8) (hk : k ∉ js) : SendA (XA t js) k [UInt8.ofNat k] = XA t (js ++ [k]) := by
  rw [sendX]
  have e : ((XA t js).ls.modify k (comeA · [UInt8.ofNat k])) = (XA t (js ++ [k])).ls := by
    apply List.ext_getElem?
    intro i
    by_cases hi : i < 8
    · by_cases e : k = i
      · subst e
        rw [List.getElem?_modify_eq, XA_get _ _ h, XA_get _ _ h, if_neg hk, if_pos (by simp)]
        rfl
      · rw [List.getElem?_modify_ne _ _ e, XA_get _ _ hi, XA_get _ _ hi]
        have : (i ∈ js ++ [k]) ↔ i ∈ js := by simp; omega
        simp only [this]
    · rw [XA_out _ _ hi, List.getElem?_eq_none (by rw [List.length_modify, XA_len]; omega)]
  show (⟨_, _, _, _⟩ : AN) = ⟨_, _, _, _⟩
  rw [e]
  rfl
theorem XA_pop (t : Nat) {js : List Nat} {k : Nat} (h : k < 8) (hk : k ∉ js) : popA (XA t (k :: js)) k = XA t js := by
  have e : ((XA t (k :: js)).ls.modify k fun x => (x.1.tail, x.2)) = (XA t js).ls := by
    apply List.ext_getElem?
    intro i
    by_cases hi : i < 8
    · by_cases e : k = i
      · subst e
        rw [List.getElem?_modify_eq, XA_get _ _ h, XA_get _ _ h, if_neg hk, if_pos (by simp)]
        rfl
      · rw [List.getElem?_modify_ne _ _ e, XA_get _ _ hi, XA_get _ _ hi]
        have : (i ∈ k :: js) ↔ i ∈ js := by simp; omega
        simp only [this]
    · rw [XA_out _ _ hi, List.getElem?_eq_none (by rw [List.length_modify, XA_len]; omega)]
  show (⟨_, _, _, _⟩ : AN) = ⟨_, _, _, _⟩
  rw [e]
  rfl
theorem XA_has (t : Nat) (js : List Nat) {k : Nat} (h : k < 8) : hasA (XA t js) k = decide (k ∈ js) := by
  unfold hasA
  rw [XA_get _ _ h]
  by_cases e : k ∈ js
  · simp [e]
  · simp [e]
theorem XA_end (t : Nat) (js : List Nat) {k : Nat} (h : k < 8) : endA (XA t js) k = false := by
  unfold endA
  rw [XA_get _ _ h]
  rfl
theorem find_ext {p q : Nat → Bool} : ∀ {l : List Nat}, (∀ x ∈ l, p x = q x) → l.find? p = l.find? q
  | [], _ => rfl
  | x :: r, h => by
    rw [List.find?_cons, List.find?_cons, h x (by simp), find_ext (l := r) (fun y hy => h y (by simp [hy]))]
/-- of several lanes the first of the list that has something -/
theorem XA_any (t n : Nat) {is : List Nat} {hb : Nat → Bool} {k : Nat} {r : List Nat} (h8 : ∀ i ∈ is, i < 8) (hf : is.filter hb = k :: r) (hk : k ∉ r) : awA n (XA t (k :: r)) is = ((k, [UInt8.ofNat k], 0), XA t r) := by
  have e : is.find? (hasA (XA t (k :: r))) = some k := by
    rw [find_ext (q := hb) (fun x hx => by
      rw [XA_has _ _ (h8 x hx), ← hf]
      cases hx2 : hb x with
      | true => simp [List.mem_filter, hx, hx2]
      | false => simp [List.mem_filter, hx2]), ← List.head?_filter, hf]
    rfl
  have h9 : k < 8 := h8 k (by
    have : k ∈ is.filter hb := by rw [hf]; simp
    exact (List.mem_filter.1 this).1)
  rw [awA_some e, XA_pop _ h9 hk]
  congr 2
  unfold firstA
  rw [XA_get _ _ h9, if_pos (by simp)]
  rfl
theorem XA_tick (t : Nat) : tickA (XA t []) = XA (t + 1) [] := rfl
theorem XA_none : ∀ (n t : Nat) {is : List Nat}, (∀ i ∈ is, i < 8) → is ≠ [] → awA n (XA t []) is = ((0, [], 190), XA (t + n) [])
  | 0, t, is, h8, hne => by
    have e1 : is.find? (hasA (XA t [])) = none := List.find?_eq_none.2 fun x hx => by rw [XA_has _ _ (h8 x hx)]; simp
    rw [awA_out e1]
    · rfl
    · cases is with
      | nil => exact absurd rfl hne
      | cons x r => simp [XA_end t [] (h8 x (by simp))]
  | n + 1, t, is, h8, hne => by
    have e1 : is.find? (hasA (XA t [])) = none := List.find?_eq_none.2 fun x hx => by rw [XA_has _ _ (h8 x hx)]; simp
    rw [awA_tick e1, XA_tick, XA_none n (t + 1) h8 hne, show t + 1 + n = t + (n + 1) by omega]
    cases is with
    | nil => exact absurd rfl hne
    | cons x r => simp [XA_end t [] (h8 x (by simp))]
theorem XA_77 (t : Nat) {js : List Nat} {k : Nat} (h : k < 8) (hk : k ∉ js) : (SendA (XA t js) k [77]).ls[k]? = some ([[77]], false) ∧ (SendA (XA t js) k [77]).now = t ∧ awA 0 (SendA (XA t js) k [77]) [k] = ((k, [77], 0), popA (SendA (XA t js) k [77]) k) := by
  have e : (SendA (XA t js) k [77]).ls[k]? = some ([[77]], false) := by
    rw [sendX]
    show ((XA t js).ls.modify k (comeA · [77]))[k]? = _
    rw [List.getElem?_modify_eq, XA_get _ _ h, if_neg hk]
    rfl
  refine ⟨e, by rw [sendX]; rfl, ?_⟩
  have e1 : hasA (SendA (XA t js) k [77]) k = true := by unfold hasA; rw [e]; rfl
  have e2 : firstA (SendA (XA t js) k [77]) k = [77] := by unfold firstA; rw [e]; rfl
  rw [awA_some (i := k) (by simp [e1]), e2]
/-- a list of numbers of one's own -/
abbrev IOwn (w : World) (B : Nat) (v : Value) (is : List Nat) : Prop := w.ownsRow B 3 1 v is.length (ivs is)
theorem infoInt : (Try.prog.info? 3).map (fun i => (i.zero, i.size, i.bytes)) = some (some (.int .i64 0), 1, 8) := by kernel_rfl
theorem ivs_one (l : List Nat) : ∀ u ∈ ivs l, u.oneCell' = true := fun u hu => by
  obtain ⟨i, _, rfl⟩ := List.mem_map.1 hu
  rfl
theorem IOwn.get {w : World} {B : Nat} {v : Value} {is : List Nat} (h : IOwn w B v is) {j : Nat} (hj : j < is.length) {i : Nat} (hi : is[j] = i) : ∃ g c, v = .slice (some ⟨g, 0, none⟩) is.length c ∧ is.length ≤ c ∧ w.cell? ⟨g, j, none⟩ = some (.int .i64 (i : Int)) := by
  have hc := fun g hg => World.ownsRow.cells h (g := g) hg
  rcases h.2 with ⟨rfl, h0⟩ | ⟨g, cap, cur, rfl, _, hg, hnc, hcm, _, _⟩
  · omega
  · refine ⟨g, cap, rfl, hnc, ?_⟩
    have := hc g rfl j _ (ivs_get hj)
    rw [Addr.add_lit, Nat.zero_add, hi] at this
    exact this
theorem IOwn.shape {w : World} {B : Nat} {v : Value} {is : List Nat} (h : IOwn w B v is) : ∃ a c, v = .slice a is.length c := by
  rcases h.2 with ⟨rfl, h0⟩ | ⟨g, cap, cur, rfl, _⟩
  · exact ⟨none, 0, by rw [h0]⟩
  · exact ⟨_, _, rfl⟩
theorem int_not_own {w : World} {S : NS} (h : NOk w S) {B : Nat} {v : Value} {is : List Nat} (o : IOwn w B v is) : ∀ g, v.ownBlock = some g → ¬ own S g := fun g hg hk => by
  have t := row_tag o hg
  rcases h.tag hk with e | e | e | e | e <;> rw [t] at e <;> cases e
theorem IOwn.lns {w : World} {B : Nat} {v : Value} {is : List Nat} {S : NS} (h : IOwn w B v is) (hne : is ≠ []) (hlt : ∀ i ∈ is, i < S.ls.length) (hle : is.length ≤ 64) : Lns w S v is := by
  have hp : 0 < is.length := List.length_pos_iff.2 hne
  obtain ⟨g, c, rfl, hc, _⟩ := h.get hp rfl
  refine ⟨⟨g, 0, c, rfl, hc, fun j i hi => ?_⟩, hne, hlt, hle⟩
  obtain ⟨hj, e⟩ := List.getElem?_eq_some_iff.1 hi
  obtain ⟨g', c', e', _, k⟩ := h.get hj e
  injection e' with e1
  injection e1 with e1
  injection e1 with e1
  subst e1
  rw [Nat.zero_add]
  exact k
theorem LJ.any {w wr : World} {S : NS} {A : AN} {K B : Nat} (h : LJ w wr S A K) (v : Value) (is : List Nat) (n : Nat) (ho : IOwn wr B v is) (hne : is ≠ []) (hlt : ∀ i ∈ is, i < A.ls.length) (hle : is.length ≤ 64) (hnd : ∀ i, is.count i ≤ 1) (hn : n ≤ 65536) (hnow : A.now ≤ 2305843009213693952) (hk : K ≤ 1099511627776) :
    Calls Try.prog 20 #[.pointer (some ⟨S.nb, 0, none⟩), v, .int .i64 (n : Int)] wr fun e w' => ∃ mv, e = .returned (.tuple #[.int .i64 ((awA n A is).1.1 : Int), mv, .int .i64 (awA n A is).1.2.2]) ∧ Ow w' 0 mv (awA n A is).1.2.1 ∧ ∃ S', Stp wr.heap.size 0 wr w' S S' (awA n A is).2 := by
  have hl : S.ls.length = A.ls.length := by rw [← h.ab]; simp [abs]
  refine (Any_yes wr S v is n h.ok h.so ⟨ho.lns hne (fun i hi => by rw [hl]; exact hlt i hi) hle, hnd⟩ (fun g hg => ⟨int_not_own h.ok ho g hg, ?_⟩) hn (by rw [h.now]; exact hnow) (by have := h.mn; omega)).mono ?_
  · have := row_tag ho hg
    unfold otag at this
    rcases Nat.lt_or_ge g wr.heap.size with h1 | h1
    · exact h1
    · rw [Array.getElem?_eq_none h1] at this
      cases this
  · rw [h.ab]
    rintro e w' ⟨mv, S', rfl, h1, h2⟩
    exact ⟨mv, rfl, h1, S', h2⟩
/-- a list of yes and no that is read -/
def BL (w : World) (v : Value) (bs : List Bool) : Prop := ∃ a c, v = .slice a bs.length c ∧ bs.length ≤ c ∧ ∀ j z, bs[j]? = some z → ∃ b o, a = some ⟨b, o, none⟩ ∧ w.cell? ⟨b, o + j, none⟩ = some (.bool z)
def hbs (bs : List Bool) (i : Nat) : Bool := (bs[i]?).getD false
theorem filt_snoc (p : Nat → Bool) {l : List Nat} {j : Nat} (h : j < l.length) {x : Nat} (hx : l[j] = x) : (l.take (j + 1)).filter p = (l.take j).filter p ++ if p x then [x] else [] := by
  rw [List.take_succ_eq_append_getElem h, hx, List.filter_append]
  by_cases e : p x = true
  · rw [if_pos e, List.filter_cons_of_pos e, List.filter_nil]
  · rw [if_neg e, List.filter_cons_of_neg e, List.filter_nil]
/-- what is wanted -/
def wnt (js : List Nat) : Int := match js with
  | [] => -1
  | k :: _ => (k : Int)
theorem wnt_snoc (js : List Nat) (k : Nat) : wnt (js ++ [k]) = if js = [] then (k : Int) else wnt js := by
  cases js <;> rfl
theorem not_before {l : List Nat} (hn : ∀ i, l.count i ≤ 1) {j : Nat} (h : j < l.length) {x : Nat} (hx : l[j] = x) : x ∉ l.take j := by
  intro hm
  have h1 := hn x
  have h2 : l = l.take j ++ x :: l.drop (j + 1) := by
    rw [← hx, ← List.drop_eq_getElem_cons h, List.take_append_drop]
  rw [h2, List.count_append, List.count_cons_self] at h1
  have := List.count_pos_iff.2 hm
  omega
theorem count_filter_le (p : Nat → Bool) (l : List Nat) (i : Nat) : (l.filter p).count i ≤ l.count i := List.Sublist.count_le i List.filter_sublist
theorem head_notin {l r : List Nat} {k : Nat} (hn : ∀ i, l.count i ≤ 1) (p : Nat → Bool) (h : l.filter p = k :: r) : k ∉ r := by
  intro hm
  have h1 := Nat.le_trans (count_filter_le p l k) (hn k)
  rw [h, List.count_cons_self] at h1
  have := List.count_pos_iff.2 hm
  omega
theorem IOwn.one {w : World} {B g c : Nat} {k : Nat} {r : List Nat} {n : Nat} (h : IOwn w B (.slice (some ⟨g, 0, none⟩) n c) (k :: r)) : IOwn w B (.slice (some ⟨g, 0, none⟩) 1 c) [k] := by
  rcases h.2 with ⟨h, _⟩ | ⟨g', cap, cur, e, hb, hg, hnc, hcm, hcs, ht⟩
  · cases h
  · injection e with e1 e2 e3
    injection e1 with e1
    injection e1 with e1
    subst e1 e3
    refine ⟨rfl, .inr ⟨g, c, cur, rfl, hb, hg, by simp only [List.length_cons] at hnc; show 1 ≤ c; omega, hcm, hcs, ?_⟩⟩
    have h2 := congrArg (List.take 1) ht
    rw [List.take_take, show min 1 ((k :: r).length * 1) = [k].length * 1 by simp only [List.length_cons, List.length_nil]; omega] at h2
    rw [h2]
    rfl
end Go.Proofs.Ytgfehlcindapmaa
