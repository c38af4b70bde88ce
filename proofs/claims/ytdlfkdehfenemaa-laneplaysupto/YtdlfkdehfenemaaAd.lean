import Derived.Test.YtdlfkdehfenemaaAc
namespace Go.Proofs.Ytdlfkdehfenemaa
open Go.RowKit Go.Conc TextNum
theorem lcs_len (ls : List LC) : (lcs ls).length = 3 * ls.length := by
  induction ls with
  | nil => rfl
  | cons l r ih => 
    unfold lcs at ih ⊢
    simp only [List.flatMap_cons, List.length_append, List.length_cons, ih, lc, List.length_nil]
    omega
theorem lcs_get : ∀ {ls : List LC} {i : Nat} {l : LC} {k : Nat}, ls[i]? = some l → k < 3 → (lcs ls)[i * 3 + k]? = (lc l)[k]?
  | l0 :: r, 0, l, k, h, hk => by
    obtain rfl : l0 = l := by simpa using h
    show (lc l0 ++ lcs r)[0 * 3 + k]? = _
    rw [Nat.zero_mul, Nat.zero_add, List.getElem?_append_left (by simpa [lc] using hk)]
  | l0 :: r, i + 1, l, k, h, hk => by
    show (lc l0 ++ lcs r)[(i + 1) * 3 + k]? = _
    rw [List.getElem?_append_right (by simp [lc]; omega), show (i + 1) * 3 + k - (lc l0).length = i * 3 + k by simp [lc]; omega]
    exact lcs_get (by simpa using h) hk
theorem lcs_set : ∀ {ls : List LC} {i : Nat} {l l' : LC} {k : Nat} {v : Value}, ls[i]? = some l → k < 3 → lc l' = (lc l).set k v → (lcs ls).set (i * 3 + k) v = lcs (ls.set i l')
  | l0 :: r, 0, l, l', k, v, h, hk, hf => by
    obtain rfl : l0 = l := by simpa using h
    show (lc l0 ++ lcs r).set (0 * 3 + k) v = lc l' ++ lcs r
    rw [Nat.zero_mul, Nat.zero_add, List.set_append, if_pos (by simpa [lc] using hk), hf]
  | l0 :: r, i + 1, l, l', k, v, h, hk, hf => by
    show (lc l0 ++ lcs r).set ((i + 1) * 3 + k) v = lc l0 ++ lcs (r.set i l')
    rw [List.set_append, if_neg (by simp [lc]; omega), show (i + 1) * 3 + k - (lc l0).length = i * 3 + k by simp [lc]; omega]
    rw [lcs_set (by simpa using h) hk hf]
theorem lcs_same : ∀ {ls : List LC} {i : Nat} {l l' : LC}, ls[i]? = some l → lc l' = lc l → lcs (ls.set i l') = lcs ls
  | l0 :: r, 0, l, l', h, hf => by
    obtain rfl : l0 = l := by simpa using h
    show lc l' ++ lcs r = lc l0 ++ lcs r
    rw [hf]
  | l0 :: r, i + 1, l, l', h, hf => by
    show lc l0 ++ lcs (r.set i l') = lc l0 ++ lcs r
    rw [lcs_same (by simpa using h) hf]
theorem get_mem {α : Type} {l : List α} {i : Nat} {x : α} (h : l[i]? = some x) : x ∈ l := List.mem_of_getElem? h
theorem set_chn {ls : List LC} {i : Nat} {l l' : LC} (h : ls[i]? = some l) (hc : l'.c = l.c) : (ls.set i l').map (·.c) = ls.map (·.c) := by
  apply List.ext_getElem?
  intro j
  simp only [List.getElem?_map, List.getElem?_set]
  by_cases hj : i = j
  · subst hj
    obtain ⟨hl, e⟩ := List.getElem?_eq_some_iff.1 h
    simp [hl, e, hc]
  · simp [hj]
theorem chn_ne {ls : List LC} (nd : (ls.map (·.c)).Nodup) {i j : Nat} {a b : LC} (hi : ls[i]? = some a) (hj : ls[j]? = some b) (h : i ≠ j) : b.c ≠ a.c := by
  intro e
  have h1 := (List.getElem?_eq_some_iff.1 hi)
  have h2 := (List.getElem?_eq_some_iff.1 hj)
  obtain ⟨l1, e1⟩ := h1
  obtain ⟨l2, e2⟩ := h2
  have := (List.getElem_inj (xs := ls.map (·.c)) (i := i) (j := j) (h₀ := by simpa using l1) (h₁ := by simpa using l2) nd).1 (by simp [e1, e2, e])
  exact h this
abbrev wLs (S : NS) (i : Nat) (l' : LC) : NS := { S with ls := S.ls.set i l' }
theorem own_set {S : NS} {i : Nat} {l l' : LC} (h : S.ls[i]? = some l) (hc : l'.c = l.c) {k : Nat} : own (wLs S i l') k ↔ own S k := by
  have e := set_chn h hc
  have e1 : (∃ x ∈ S.ls.set i l', k = x.c) ↔ ∃ x ∈ S.ls, k = x.c := by
    have : k ∈ (S.ls.set i l').map (·.c) ↔ k ∈ S.ls.map (·.c) := by rw [e]
    simp only [List.mem_map] at this
    constructor
    · rintro ⟨x, h1, h2⟩
      obtain ⟨y, h3, h4⟩ := this.1 ⟨x, h1, h2.symm⟩
      exact ⟨y, h3, h4.symm⟩
    · rintro ⟨x, h1, h2⟩
      obtain ⟨y, h3, h4⟩ := this.2 ⟨x, h1, h2.symm⟩
      exact ⟨y, h3, h4.symm⟩
  unfold own
  show (_ ∨ _ ∨ _ ∨ (∃ x ∈ S.ls.set i l', k = x.c) ∨ _) ↔ _
  rw [e1]
theorem mem_set {α : Type} {l : List α} {i : Nat} {y x : α} (h : x ∈ l.set i y) : x = y ∨ x ∈ l := by
  rcases List.mem_or_eq_of_mem_set h with h | h
  · exact .inr h
  · exact .inl h
theorem msgs_set {S : NS} {i : Nat} {l' : LC} {m : Msg} (h : m ∈ msgs (wLs S i l')) : m ∈ l'.ms ∨ m ∈ msgs S := by
  unfold msgs at h ⊢
  rcases List.mem_append.1 h with h | h
  · obtain ⟨x, h1, h2⟩ := List.mem_flatMap.1 h
    rcases mem_set h1 with rfl | h1
    · exact .inl h2
    · exact .inr (List.mem_append.2 (.inl (List.mem_flatMap.2 ⟨x, h1, h2⟩)))
  · exact .inr (List.mem_append.2 (.inr h))
theorem at_notchan {w : World} {b : Nat} {t : TypeId} {cs : List Value} (h : At w b t cs) {l : LC} (k : w.heap[l.c]? = some (chn l)) : b ≠ l.c := fun e => by
  subst e
  unfold At at h
  rw [h] at k
  cases k
/-- one lane changes -/
theorem NOk.lane {w w' : World} {S : NS} (h : NOk w S) {i : Nat} {l l' : LC} (hl : S.ls[i]? = some l) (hc : l'.c = l.c) (hr : At w' S.pb 87 (lcs (S.ls.set i l'))) (hch : w'.heap[l.c]? = some (chn l'))
    (hf : Fr (fun k => k = S.pb ∨ k = l.c) w w') (hm : ∀ m ∈ l'.ms, Ow w' 0 m.v m.d) : NOk w' (wLs S i l') := by
  have tl : otag w l.c = some 1000 := by
    have e := h.chs l (get_mem hl)
    simp only [otag, e, chn]
  have tp := h.row.tag
  have no : ∀ k t, otag w k = some t → t ≠ 87 → t ≠ 1000 → ¬ (k = S.pb ∨ k = l.c) := by
    intro k t ht h1 h2 hk
    rcases hk with rfl | rfl
    · rw [tp] at ht; exact h1 (Option.some.inj ht).symm
    · rw [tl] at ht; exact h2 (Option.some.inj ht).symm
  refine ⟨?_, hr, ?_, ?_, ?_, ?_, h.dis, ?_, ?_⟩
  · have := hf.at h.net (no _ _ h.net.tag (by decide) (by decide))
    simpa only [ncl, List.length_set] using this
  · intro x hx
    obtain ⟨j, hj⟩ := List.getElem?_of_mem hx
    by_cases e : i = j
    · subst e
      rw [List.getElem?_set_self (List.getElem?_eq_some_iff.1 hl).1] at hj
      obtain rfl := Option.some.inj hj
      rw [hc]; exact hch
    · rw [List.getElem?_set_ne e] at hj
      have h1 := h.chs x (get_mem hj)
      have h2 := chn_ne h.cnd hl hj e
      rw [hf.block x.c (lt_of_at h1) (fun hk => by
        rcases hk with hk | hk
        · exact at_notchan h.row h1 hk.symm
        · exact h2 hk)]
      exact h1
  · rw [show (wLs S i l').ls = S.ls.set i l' from rfl, set_chn hl hc]; exact h.cnd
  · obtain ⟨es, cl, e⟩ := h.mm.map
    exact hf.mm h.mm (no _ 1001 (by simp only [otag, e]) (by decide) (by decide))
  · intro t
    exact hf.own (h.prs t) (fun g hg => no g _ (row_tag (h.prs t) hg) (by decide) (by decide))
  · exact hf.fts h.fts (fun g hg => no g _ (h.fts.tag hg) (by decide) (by decide))
  · intro m hm2
    rcases msgs_set hm2 with h1 | h1
    · exact hm m h1
    · exact hf.own (h.ms m h1) (fun g hg => no g _ (row_tag (h.ms m h1) hg) (by decide) (by decide))
theorem grown_chan (w : World) (c cap : Nat) (buf : Array Value) (cl : Bool) (s r : Nat) (tm : Bool) : w.grownBy (w.setChan c cap buf cl s r tm) (some c) :=
  ⟨rfl, rfl, rfl, by simp [World.setChan], fun k _ hk => by
    have : ¬ c = k := fun e => hk (by rw [e])
    simp [World.setChan, Array.getElem?_setIfInBounds_ne this]⟩
/-- what comes -/
def comeL (l : LC) (m : Msg) : LC := if l.ms.length < 64 then { l with ms := l.ms ++ [m], s := l.s + 1 } else l
theorem comeL_c (l : LC) (m : Msg) : (comeL l m).c = l.c := by unfold comeL; split <;> rfl
theorem comeL_lc (l : LC) (m : Msg) : lc (comeL l m) = lc l := by unfold comeL; split <;> rfl
theorem comeL_la (l : LC) (m : Msg) : (comeL l m).la = l.la := by unfold comeL; split <;> rfl
theorem comeL_sh (l : LC) (m : Msg) : (comeL l m).sh = l.sh := by unfold comeL; split <;> rfl
theorem comeL_ms {l : LC} {m x : Msg} (h : x ∈ (comeL l m).ms) : x = m ∨ x ∈ l.ms := by
  unfold comeL at h
  split at h
  · rcases List.mem_append.1 h with h | h
    · exact .inr h
    · exact .inl (by simpa using h)
  · exact .inr h
theorem wcome_chn {w : World} {l : LC} {m : Msg} (h : w.heap[l.c]? = some (chn l)) (ho : (l.sh && l.la == 0) = false) : (wcome w l.c (l.ms.map (·.v)).toArray l.s l.r m.v).heap[l.c]? = some (chn (comeL l m)) := by
  unfold wcome comeL
  by_cases hl : l.ms.length < 64
  · rw [if_pos (by simpa using hl), if_pos hl, heap_setChan _ _ _ _ _ _ _ _ (lt_of_at h)]
    simp [chn, ho]
  · rw [if_neg (by simpa using hl), if_neg hl]; exact h
theorem wcome_by (w : World) (c : Nat) (buf : Array Value) (s r : Nat) (m : Value) : w.grownBy (wcome w c buf s r m) (some c) := by
  unfold wcome
  split
  · exact grown_chan ..
  · exact grown_refl ..
theorem NOk.come {w : World} {S : NS} (h : NOk w S) {i : Nat} {l : LC} {m : Msg} (hl : S.ls[i]? = some l) (ho : (l.sh && l.la == 0) = false) (hm : Ow w 0 m.v m.d) : NOk (wcome w l.c (l.ms.map (·.v)).toArray l.s l.r m.v) (wLs S i (comeL l m)) := by
  have hb := wcome_by w l.c (l.ms.map (·.v)).toArray l.s l.r m.v
  have hx := h.chs l (get_mem hl)
  have hf : Fr (fun k => k = S.pb ∨ k = l.c) w (wcome w l.c (l.ms.map (·.v)).toArray l.s l.r m.v) := (Fr.refl _ w).by hb (fun g hg => .inl (.inr (Option.some.inj hg).symm))
  have tl : otag w l.c = some 1000 := by simp only [otag, hx, chn]
  have keep : ∀ x : Msg, Ow w 0 x.v x.d → Ow (wcome w l.c (l.ms.map (·.v)).toArray l.s l.r m.v) 0 x.v x.d := fun x hx => World.ownsRow.kept hx hb (.inr (fun e => by
    have := row_tag hx e
    rw [tl] at this; cases this))
  refine h.lane hl (comeL_c l m) ?_ (wcome_chn hx ho) hf (fun x hx => ?_)
  · rw [lcs_same hl (comeL_lc l m)]
    exact h.row.by hb (fun e => at_notchan h.row hx (Option.some.inj e).symm)
  · rcases comeL_ms hx with rfl | hx
    · exact keep _ hm
    · exact keep _ (h.ms x (List.mem_append.2 (.inl (List.mem_flatMap.2 ⟨l, get_mem hl, hx⟩))))
end Go.Proofs.Ytdlfkdehfenemaa
