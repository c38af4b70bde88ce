import Derived.Test.YtdlfkdehfenemaaAm
namespace Go.Proofs.Ytdlfkdehfenemaa
open Go.RowKit Go.Conc TextNum
/-- the net's own cells change -/
theorem NOk.netw {w w' : World} {S : NS} (h : NOk w S) (hb : w.grownBy w' (some S.nb)) (n : Nat) (hA : At w' S.nb 84 (ncl { S with now := n })) : NOk w' { S with now := n } := by
  have hff : Fr (fun k => k = S.nb) w w' := (Fr.refl _ w).by hb (fun g hg => .inl (Option.some.inj hg).symm)
  have no2 : ∀ k t, otag w k = some t → t ≠ 84 → ¬ k = S.nb := fun k t ht h1 e => by
    subst e
    rw [h.net.tag] at ht
    exact h1 (Option.some.inj ht).symm
  refine ⟨hA, hff.at h.row (no2 _ _ h.row.tag (by decide)), fun l hl => ?_, h.cnd, ?_, fun t => ?_, h.dis, ?_, fun m hm => ?_⟩
  · have hx := h.chs l hl
    exact (hff.block _ (lt_of_at hx) (no2 _ 1000 (by simp only [otag, hx, chn]) (by decide))).trans hx
  · obtain ⟨es, cl, e⟩ := h.mm.map
    exact hff.mm h.mm (no2 _ 1001 (by simp only [otag, e]) (by decide))
  · exact hff.own (h.prs t) (fun g hg => no2 g _ (row_tag (h.prs t) hg) (by decide))
  · exact hff.fts h.fts (fun g hg => no2 g _ (h.fts.tag hg) (by decide))
  · exact hff.own (h.ms m hm) (fun g hg => no2 g _ (row_tag (h.ms m hm) hg) (by decide))
/-- those that are due come -/
def arrS1 (S : NS) (p : PC) : NS := match S.ls[p.i]? with
  | some l => wLs S p.i (arrL l p.m)
  | none => S
def arrS (S : NS) (ps : List PC) : NS := ps.foldl arrS1 S
theorem arrL_c (l : LC) (m : Msg) : (arrL l m).c = l.c := comeL_c l m
theorem arrS_snoc (S : NS) (ps : List PC) (p : PC) : arrS S (ps ++ [p]) = arrS1 (arrS S ps) p := by simp [arrS]
theorem arrS_take (S : NS) {ps : List PC} {j : Nat} (hj : j < ps.length) : arrS S (ps.take (j + 1)) = arrS1 (arrS S (ps.take j)) ps[j] := by
  rw [List.take_succ_eq_append_getElem hj, arrS_snoc]
theorem arrS1_keep (S : NS) (p : PC) : ∃ ls, arrS1 S p = { S with ls := ls } ∧ ls.length = S.ls.length := by
  unfold arrS1
  split
  · exact ⟨_, rfl, by simp⟩
  · exact ⟨_, rfl, rfl⟩
theorem arrS_keep : ∀ (ps : List PC) (S : NS), ∃ ls, arrS S ps = { S with ls := ls } ∧ ls.length = S.ls.length
  | [], S => ⟨S.ls, rfl, rfl⟩
  | p :: ps, S => by
    obtain ⟨l1, e1, h1⟩ := arrS1_keep S p
    obtain ⟨l2, e2, h2⟩ := arrS_keep ps (arrS1 S p)
    refine ⟨l2, ?_, ?_⟩
    · show arrS (arrS1 S p) ps = _
      rw [e2, e1]
    · rw [h2, e1]; exact h1
theorem arrS1_own (S : NS) (p : PC) (k : Nat) : own (arrS1 S p) k ↔ own S k := by
  unfold arrS1
  split
  · rename_i l hl
    exact own_set hl (arrL_c l p.m)
  · exact Iff.rfl
theorem arrS_own : ∀ (ps : List PC) (S : NS) (k : Nat), own (arrS S ps) k ↔ own S k
  | [], _, _ => Iff.rfl
  | p :: ps, S, k => (arrS_own ps (arrS1 S p) k).trans (arrS1_own S p k)
theorem arrS1_msgs {S : NS} {p : PC} {m : Msg} (h : m ∈ msgs (arrS1 S p)) : m = p.m ∨ m ∈ msgs S := by
  unfold arrS1 at h
  split at h
  · rename_i l hl
    rcases msgs_set h with h1 | h1
    · rcases comeL_ms (l := l) (m := p.m) h1 with h2 | h2
      · exact .inl h2
      · exact .inr (List.mem_append.2 (.inl (List.mem_flatMap.2 ⟨l, get_mem hl, h2⟩)))
    · exact .inr h1
  · exact .inr h
theorem arrS_msgs : ∀ (ps : List PC) (S : NS) (m : Msg), m ∈ msgs (arrS S ps) → (∃ p ∈ ps, m = p.m) ∨ m ∈ msgs S
  | [], _, _, h => .inr h
  | p :: ps, S, m, h => by
    rcases arrS_msgs ps (arrS1 S p) m h with ⟨q, hq, e⟩ | h1
    · exact .inl ⟨q, List.mem_cons_of_mem _ hq, e⟩
    · rcases arrS1_msgs h1 with h2 | h2
      · exact .inl ⟨p, List.mem_cons_self, h2⟩
      · exact .inr h2
theorem arrL_ms (l : LC) (m : Msg) : (arrL l m).ms = (comeL l m).ms := rfl
theorem arrS1_cm (S : NS) (p : PC) (x : Nat) : cmL ((arrS1 S p).ls.flatMap (·.ms)) x ≤ cmL (S.ls.flatMap (·.ms)) x + bit p.m x := by
  unfold arrS1
  split
  · rename_i l hl
    have h1 := cmL_set S.ls p.i l (arrL l p.m) x hl
    have h2 := comeL_cm l p.m x
    rw [arrL_ms] at h1
    show cmL ((S.ls.set p.i (arrL l p.m)).flatMap (·.ms)) x ≤ _
    omega
  · exact Nat.le_add_right _ _
theorem arrS_cm : ∀ (ps : List PC) (S : NS) (x : Nat), cmL ((arrS S ps).ls.flatMap (·.ms)) x ≤ cmL (S.ls.flatMap (·.ms)) x + cmL (ps.map (·.m)) x
  | [], _, _ => Nat.le_refl _
  | p :: ps, S, x => by
    have h1 := arrS_cm ps (arrS1 S p) x
    have h2 := arrS1_cm S p x
    rw [List.map_cons, cmL_cons]
    show cmL ((arrS (arrS1 S p) ps).ls.flatMap (·.ms)) x ≤ _
    omega
theorem arrS1_get {S : NS} {p : PC} {i : Nat} {l' : LC} (h : (arrS1 S p).ls[i]? = some l') : ∃ l, S.ls[i]? = some l ∧ l'.la = l.la - (if p.i = i then 1 else 0) ∧ l'.sh = l.sh := by
  unfold arrS1 at h
  split at h
  · rename_i l hl
    by_cases e : p.i = i
    · subst e
      rw [show (wLs S p.i (arrL l p.m)).ls = S.ls.set p.i (arrL l p.m) from rfl, set_get hl] at h
      obtain rfl := Option.some.inj h
      exact ⟨l, hl, by rw [if_pos rfl]; rfl, comeL_sh l p.m⟩
    · rw [show (wLs S p.i (arrL l p.m)).ls = S.ls.set p.i (arrL l p.m) from rfl, List.getElem?_set_ne e] at h
      exact ⟨l', h, by rw [if_neg e]; rfl, rfl⟩
  · rename_i hn
    by_cases e : p.i = i
    · subst e
      rw [hn] at h; cases h
    · exact ⟨l', h, by rw [if_neg e]; rfl, rfl⟩
theorem arrS_la : ∀ (ps : List PC) (S : NS) (i : Nat) (l' : LC), (arrS S ps).ls[i]? = some l' → ∃ l, S.ls[i]? = some l ∧ l'.la = l.la - ps.countP (fun p => p.i == i) ∧ l'.sh = l.sh
  | [], S, i, l', h => ⟨l', h, by simp, rfl⟩
  | p :: ps, S, i, l', h => by
    obtain ⟨l1, h1, h2, h3⟩ := arrS_la ps (arrS1 S p) i l' h
    obtain ⟨l, h4, h5, h6⟩ := arrS1_get h1
    refine ⟨l, h4, ?_, h3.trans h6⟩
    rw [h2, h5, List.countP_cons]
    by_cases e : p.i = i
    · simp [e]; omega
    · simp [e]
theorem arrS_get {S : NS} {ps : List PC} {i : Nat} {l : LC} (h : S.ls[i]? = some l) : ∃ l', (arrS S ps).ls[i]? = some l' ∧ l'.la = l.la - ps.countP (fun p => p.i == i) ∧ l'.sh = l.sh := by
  obtain ⟨ls, e, hl⟩ := arrS_keep ps S
  have hi : i < (arrS S ps).ls.length := by
    rw [e]
    show i < ls.length
    rw [hl]
    exact (List.getElem?_eq_some_iff.1 h).1
  refine ⟨(arrS S ps).ls[i], List.getElem?_eq_getElem hi, ?_⟩
  obtain ⟨l0, h1, h2, h3⟩ := arrS_la ps S i _ (List.getElem?_eq_getElem hi)
  rw [h] at h1
  obtain rfl := Option.some.inj h1
  exact ⟨h2, h3⟩
/-- those without their memory -/
def arrA (A : AN) (ps : List (Nat × Nat × List UInt8)) : AN := ps.foldl (fun A p => putA A p.2.1 p.2.2) A
theorem abs_arrL (l : LC) (m : Msg) : absL (arrL l m) = comeA (absL l) m.d := abs_come l m
theorem abs_arr1 (S : NS) (p : PC) : abs (arrS1 S p) = putA (abs S) p.i p.m.d := by
  unfold arrS1
  split
  · rename_i l hl
    unfold abs putA
    dsimp only
    rw [map_set_modify absL (comeA · p.m.d) _ _ _ _ hl (abs_arrL l p.m)]
  · rename_i hn
    unfold putA abs
    dsimp only
    rw [List.modify_eq_self]
    rw [List.length_map]
    exact List.getElem?_eq_none_iff.1 hn
theorem abs_arr : ∀ (ps : List PC) (S : NS), abs (arrS S ps) = arrA (abs S) (ps.map absP)
  | [], _ => rfl
  | p :: ps, S => by
    show abs (arrS (arrS1 S p) ps) = arrA (putA (abs S) p.i p.m.d) (ps.map absP)
    rw [abs_arr ps, abs_arr1]
def tickA (A : AN) : AN := { arrA { A with now := A.now + 1 } (A.pd.filter fun p => p.1 == A.now + 1) with pd := A.pd.filter fun p => p.1 != A.now + 1 }
theorem arrA_pd : ∀ (ps : List (Nat × Nat × List UInt8)) (A : AN), (arrA A ps).pd = A.pd ∧ (arrA A ps).now = A.now ∧ (arrA A ps).fs = A.fs ∧ (arrA A ps).ls.length = A.ls.length
  | [], _ => ⟨rfl, rfl, rfl, rfl⟩
  | p :: ps, A => by
    obtain ⟨h1, h2, h3, h4⟩ := arrA_pd ps (putA A p.2.1 p.2.2)
    exact ⟨h1, h2, h3, by rw [show arrA A (p :: ps) = arrA (putA A p.2.1 p.2.2) ps from rfl, h4]; simp [putA]⟩
abbrev tkS (S : NS) (t : Nat) : NS := { arrS { S with now := t } (due S.pd t) with pd := S.pd.filter fun p => p.t != t, rows := fun x => if x = t then nilS else S.rows x }
theorem abs_tk (S : NS) : abs (tkS S (S.now + 1)) = tickA (abs S) := by
  have e := abs_arr (due S.pd (S.now + 1)) { S with now := S.now + 1 }
  have e2 : (due S.pd (S.now + 1)).map absP = (abs S).pd.filter (fun p => p.1 == (abs S).now + 1) := by
    unfold due abs
    rw [List.filter_map]
    rfl
  have e3 : (S.pd.filter fun p => p.t != S.now + 1).map absP = (abs S).pd.filter (fun p => p.1 != (abs S).now + 1) := by
    unfold abs
    rw [List.filter_map]
    rfl
  unfold tickA
  rw [← e2, ← e3]
  rw [show ({ abs S with now := (abs S).now + 1 } : AN) = abs { S with now := S.now + 1 } from rfl, ← e]
  rfl
theorem countP_split (pd : List PC) (t i : Nat) : pd.countP (fun p => p.i == i) = (due pd t).countP (fun p => p.i == i) + (pd.filter fun p => p.t != t).countP (fun p => p.i == i) := by
  induction pd with
  | nil => rfl
  | cons p r ih =>
    unfold due at ih ⊢
    by_cases h : p.t = t
    · simp [h, List.countP_cons, ih]; omega
    · simp [h, List.countP_cons, ih]; omega
theorem cm_split (pd : List PC) (t x : Nat) : cmL (pd.map (·.m)) x = cmL ((due pd t).map (·.m)) x + cmL ((pd.filter fun p => p.t != t).map (·.m)) x := by
  induction pd with
  | nil => rfl
  | cons p r ih =>
    unfold due at ih ⊢
    by_cases h : p.t = t
    · simp only [List.map_cons, cmL_cons, ih, List.filter_cons, h, beq_self_eq_true, if_true, bne_self_eq_false]
      simp
      omega
    · simp only [List.map_cons, cmL_cons, ih, List.filter_cons]
      simp [h, cmL_cons]
      omega
theorem tk_cm (S : NS) (t x : Nat) : cm (tkS S t) x ≤ cm S x := by
  have h1 := arrS_cm (due S.pd t) { S with now := t } x
  have h2 := cm_split S.pd t x
  unfold cm msgs
  rw [cmL_app, cmL_app]
  show cmL ((arrS { S with now := t } (due S.pd t)).ls.flatMap (·.ms)) x + cmL ((S.pd.filter fun p => p.t != t).map (·.m)) x ≤ _
  have h3 : cmL (({ S with now := t } : NS).ls.flatMap (·.ms)) x = cmL (S.ls.flatMap (·.ms)) x := rfl
  omega
theorem SOk.tick {S : NS} (h : SOk S) : SOk (tkS S (S.now + 1)) := by
  obtain ⟨ls, e, hl⟩ := arrS_keep (due S.pd (S.now + 1)) { S with now := S.now + 1 }
  have el : (tkS S (S.now + 1)).ls.length = S.ls.length := by
    show (arrS { S with now := S.now + 1 } (due S.pd (S.now + 1))).ls.length = _
    rw [e]; exact hl
  have en : (tkS S (S.now + 1)).now = S.now + 1 := by
    show (arrS { S with now := S.now + 1 } (due S.pd (S.now + 1))).now = _
    rw [e]
  have em : (tkS S (S.now + 1)).mn = S.mn := by
    show (arrS { S with now := S.now + 1 } (due S.pd (S.now + 1))).mn = _
    rw [e]
  have ef : (tkS S (S.now + 1)).fs = S.fs := by
    show (arrS { S with now := S.now + 1 } (due S.pd (S.now + 1))).fs = _
    rw [e]
  refine ⟨fun i l hli => ?_, fun p hp => ?_, ?_, by rw [el]; exact h.n, by rw [ef]; exact h.fk⟩
  · obtain ⟨l0, h1, h2, _⟩ := arrS_la (due S.pd (S.now + 1)) { S with now := S.now + 1 } i l hli
    show l.la = (S.pd.filter fun p => p.t != S.now + 1).countP (fun p => p.i == i)
    have h3 := h.la i l0 h1
    have h4 := countP_split S.pd (S.now + 1) i
    omega
  · have hp' : p ∈ S.pd.filter fun p => p.t != S.now + 1 := hp
    obtain ⟨h1, h2⟩ := List.mem_filter.1 hp'
    have h3 := h.pd p h1
    rw [el, en]
    have h4 : p.t ≠ S.now + 1 := by simpa using h2
    exact ⟨by omega, h3.2⟩
  · rw [em]
    exact Nat.le_trans (List.length_filter_le _ _) h.bd
/-- what was due is struck off -/
theorem NOk.struck {w w' : World} {S : NS} (h : NOk w S) (t : Nat) (hmm : MM w' S.mb S.mn (fun x => if x = t then nilS else S.rows x)) (hb : w.grownBy w' (some S.mb)) :
    NOk w' { S with pd := S.pd.filter fun p => p.t != t, rows := fun x => if x = t then nilS else S.rows x } := by
  obtain ⟨es, cl, hmap⟩ := h.mm.map
  have tm : otag w S.mb = some 1001 := by simp only [otag, hmap]
  have hff : Fr (fun k => k = S.mb) w w' := (Fr.refl _ w).by hb (fun g hg => .inl (Option.some.inj hg).symm)
  have no2 : ∀ k t, otag w k = some t → t ≠ 1001 → ¬ k = S.mb := fun k t ht h1 e => by
    subst e
    rw [tm] at ht
    exact h1 (Option.some.inj ht).symm
  refine ⟨hff.at h.net (no2 _ _ h.net.tag (by decide)), hff.at h.row (no2 _ _ h.row.tag (by decide)), fun l hl => ?_, h.cnd, hmm, fun x => ?_, fun x y g hne hx => ?_, ?_, fun m hm => ?_⟩
  · have hx := h.chs l hl
    exact (hff.block _ (lt_of_at hx) (no2 _ 1000 (by simp only [otag, hx, chn]) (by decide))).trans hx
  · show w'.ownsRow 0 137 2 (if x = t then nilS else S.rows x) (due (S.pd.filter fun p => p.t != t) x).length ((due (S.pd.filter fun p => p.t != t) x).flatMap pc)
    by_cases hx : x = t
    · subst hx
      have e : due (S.pd.filter fun p => p.t != x) x = [] := by
        unfold due
        rw [List.filter_filter, List.filter_eq_nil_iff]
        intro p _
        simp
      rw [if_pos rfl, e]
      exact World.ownsRow_nil _ _ _ _
    · have e : due (S.pd.filter fun p => p.t != t) x = due S.pd x := by
        unfold due
        rw [List.filter_filter]
        apply List.filter_congr
        intro p _
        by_cases hp : p.t = x
        · simp [hp, hx]
        · simp [hp]
      rw [if_neg hx, e]
      exact hff.own (h.prs x) (fun g hg => no2 g _ (row_tag (h.prs x) hg) (by decide))
  · show (if y = t then nilS else S.rows y).ownBlock ≠ some g
    have hx' : (if x = t then nilS else S.rows x).ownBlock = some g := hx
    by_cases h1 : x = t
    · rw [if_pos h1] at hx'; cases hx'
    · rw [if_neg h1] at hx'
      by_cases h2 : y = t
      · rw [if_pos h2]; intro e; cases e
      · rw [if_neg h2]; exact h.dis x y g hne hx'
  · exact hff.fts h.fts (fun g hg => no2 g _ (h.fts.tag hg) (by decide))
  · have hm' : m ∈ msgs S := by
      unfold msgs at hm ⊢
      rcases List.mem_append.1 hm with hm | hm
      · exact List.mem_append.2 (.inl hm)
      · obtain ⟨p, hp, e⟩ := List.mem_map.1 hm
        exact List.mem_append.2 (.inr (List.mem_map.2 ⟨p, (List.mem_filter.1 hp).1, e⟩))
    exact hff.own (h.ms m hm') (fun g hg => no2 g _ (row_tag (h.ms m hm') hg) (by decide))
end Go.Proofs.Ytdlfkdehfenemaa
