import Derived.Test.YtdlfkdehfenemaaAj
namespace Go.Proofs.Ytdlfkdehfenemaa
open Go.RowKit Go.Conc TextNum
/-! ### a net without its memory -/
structure AN where
  now : Nat
  fs : List (Int × Int)
  ls : List (List (List UInt8) × Bool)
  pd : List (Nat × Nat × List UInt8)
def absL (l : LC) : List (List UInt8) × Bool := (l.ms.map (·.d), l.sh)
def absP (p : PC) : Nat × Nat × List UInt8 := (p.t, p.i, p.m.d)
def abs (S : NS) : AN := ⟨S.now, S.fs, S.ls.map absL, S.pd.map absP⟩
def comeA (x : List (List UInt8) × Bool) (d : List UInt8) : List (List UInt8) × Bool := if x.1.length < 64 then (x.1 ++ [d], x.2) else x
def putA (A : AN) (i : Nat) (d : List UInt8) : AN := { A with ls := A.ls.modify i (comeA · d) }
def postA (A : AN) (i : Nat) (d : List UInt8) (n : Nat) : AN := if n = 0 then putA A i d else { A with pd := A.pd ++ [(A.now + n, i, d)] }
/-- a fate that New takes -/
def fok (f : Int × Int) : Bool := f.1 == 0 || f.1 == 1 || ((f.1 == 2 || f.1 == 3) && decide (0 ≤ f.2) && decide (f.2 ≤ 1000)) || ((f.1 == 4 || f.1 == 5) && decide (0 ≤ f.2) && decide (f.2 ≤ 1048576))
/-- what holds of a net's state by itself -/
structure SOk (S : NS) : Prop where
  la : ∀ i l, S.ls[i]? = some l → l.la = S.pd.countP fun p => p.i == i
  pd : ∀ p ∈ S.pd, S.now < p.t ∧ p.i < S.ls.length
  bd : S.pd.length ≤ S.mn
  n : S.ls.length ≤ 64
  fk : ∀ f ∈ S.fs, fok f = true
/-! ### how many messages lie in a block -/
def cmL (ms : List Msg) (x : Nat) : Nat := ms.countP fun m => m.v.ownBlock == some x
def cm (S : NS) (x : Nat) : Nat := cmL (msgs S) x
/-- each message lies in a block of its own -/
def MD (S : NS) : Prop := ∀ x, cm S x ≤ 1
def bit (m : Msg) (x : Nat) : Nat := if m.v.ownBlock == some x then 1 else 0
theorem cmL_app (a b : List Msg) (x : Nat) : cmL (a ++ b) x = cmL a x + cmL b x := List.countP_append
theorem cmL_cons (m : Msg) (r : List Msg) (x : Nat) : cmL (m :: r) x = cmL r x + bit m x := by unfold cmL bit; rw [List.countP_cons]
theorem cmL_one (m : Msg) (x : Nat) : cmL [m] x = bit m x := by rw [cmL_cons]; show 0 + _ = _; omega
theorem cmL_set : ∀ (ls : List LC) (i : Nat) (l l' : LC) (x : Nat), ls[i]? = some l → cmL ((ls.set i l').flatMap (·.ms)) x + cmL l.ms x = cmL (ls.flatMap (·.ms)) x + cmL l'.ms x
  | l0 :: r, 0, l, l', x, h => by
    obtain rfl : l0 = l := by simpa using h
    rw [List.set_cons_zero, List.flatMap_cons, List.flatMap_cons, cmL_app, cmL_app]
    omega
  | l0 :: r, i + 1, l, l', x, h => by
    have := cmL_set r i l l' x (by simpa using h)
    rw [List.set_cons_succ, List.flatMap_cons, List.flatMap_cons, cmL_app, cmL_app]
    omega
theorem cm_set {S : NS} {i : Nat} {l l' : LC} (h : S.ls[i]? = some l) (x : Nat) : cm (wLs S i l') x + cmL l.ms x = cm S x + cmL l'.ms x := by
  have := cmL_set S.ls i l l' x h
  unfold cm msgs
  rw [cmL_app, cmL_app]
  show cmL ((S.ls.set i l').flatMap (·.ms)) x + cmL (S.pd.map (·.m)) x + _ = _
  omega
theorem comeL_cm (l : LC) (m : Msg) (x : Nat) : cmL (comeL l m).ms x ≤ cmL l.ms x + bit m x := by
  unfold comeL
  split
  · show cmL (l.ms ++ [m]) x ≤ _
    rw [cmL_app, cmL_one]
    exact Nat.le_refl _
  · exact Nat.le_add_right _ _
theorem cm_come {S : NS} {i : Nat} {l : LC} (h : S.ls[i]? = some l) (m : Msg) (x : Nat) : cm (wLs S i (comeL l m)) x ≤ cm S x + bit m x := by
  have h1 := cm_set (l' := comeL l m) h x
  have h2 := comeL_cm l m x
  omega
theorem MD.more {S S' : NS} {m : Msg} (h : MD S) (hc : ∀ x, cm S' x ≤ cm S x + bit m x) (hF : ∀ x, m.v.ownBlock = some x → cm S x = 0) : MD S' := fun x => by
  have h1 := hc x
  have h2 := h x
  unfold bit at h1
  by_cases e : m.v.ownBlock = some x
  · have := hF x e
    rw [e] at h1
    simp at h1
    omega
  · rw [if_neg (by simpa using e)] at h1
    omega
theorem cm_new {w : World} {S : NS} (h : NOk w S) {x : Nat} (hx : w.heap.size ≤ x) : cm S x = 0 := by
  unfold cm cmL
  rw [List.countP_eq_zero]
  intro m hm e
  have := h.ltr (.inr ⟨m, hm, by simpa using e⟩)
  omega
theorem cm_not {S : NS} {x : Nat} (h : cm S x = 0) : ∀ m ∈ msgs S, m.v.ownBlock ≠ some x := fun m hm e => by
  unfold cm cmL at h
  rw [List.countP_eq_zero] at h
  exact h m hm (by simpa using e)
/-- a step of a net: what holds behind it -/
structure Stp (N k : Nat) (w w' : World) (S S' : NS) (A : AN) : Prop where
  ok : NOk w' S'
  so : SOk S'
  ab : abs S' = A
  fr : Fr (own S) w w'
  no : ∀ x, own S' x → own S x ∨ w.heap.size ≤ x
  nr : ∀ x, rds S' x → rds S x ∨ N ≤ x
  nb : S'.nb = S.nb
  mn : S'.mn ≤ S.mn + k
  ap : MD S → MD S'
theorem Stp.refl {N : Nat} {w : World} {S : NS} (h : NOk w S) (k : SOk S) : Stp N 0 w w S S (abs S) := ⟨h, k, rfl, Fr.refl _ _, fun _ h => .inl h, fun _ h => .inl h, rfl, Nat.le_refl _, id⟩
theorem Stp.up {N : Nat} {w w' : World} {S : NS} (h : NOk w S) (k : SOk S) (u : Up w w') : Stp N 0 w w' S S (abs S) := ⟨h.up u, k, rfl, fr_of_up _ u, fun _ h => .inl h, fun _ h => .inl h, rfl, Nat.le_refl _, id⟩
theorem Stp.trans {N k k' : Nat} {w w1 w2 : World} {S S1 S2 : NS} {A B : AN} (h : Stp N k w w1 S S1 A) (g : Stp N k' w1 w2 S1 S2 B) : Stp N (k + k') w w2 S S2 B :=
  ⟨g.ok, g.so, g.ab, h.fr.trans g.fr h.no, fun x hx => (g.no x hx).elim (h.no x) (fun h1 => .inr (Nat.le_trans h.fr.size h1)), fun x hx => (g.nr x hx).elim (h.nr x) .inr, g.nb.trans h.nb, by have := h.mn; have := g.mn; omega, fun x => g.ap (h.ap x)⟩
theorem abs_come (l : LC) (m : Msg) : absL (comeL l m) = comeA (absL l) m.d := by
  unfold comeL comeA absL
  by_cases h : l.ms.length < 64
  · simp [h]
  · simp [h]
theorem map_set_modify {α β : Type} (f : α → β) (g : β → β) : ∀ (l : List α) (i : Nat) (x y : α), l[i]? = some x → f y = g (f x) → (l.set i y).map f = (l.map f).modify i g
  | x0 :: r, 0, x, y, h, e => by
    obtain rfl : x0 = x := by simpa using h
    simp [List.modify, e]
  | x0 :: r, i + 1, x, y, h, e => by
    have := map_set_modify f g r i x y (by simpa using h) e
    simpa [List.modify] using this
theorem map_set_same {α β : Type} (f : α → β) : ∀ (l : List α) (i : Nat) (x y : α), l[i]? = some x → f y = f x → (l.set i y).map f = l.map f
  | x0 :: r, 0, x, y, h, e => by
    obtain rfl : x0 = x := by simpa using h
    simp [e]
  | x0 :: r, i + 1, x, y, h, e => by
    have := map_set_same f r i x y (by simpa using h) e
    simpa using this
theorem abs_put {S : NS} {i : Nat} {l : LC} {m : Msg} (hl : S.ls[i]? = some l) : abs (wLs S i (comeL l m)) = putA (abs S) i m.d := by
  unfold abs putA
  dsimp only
  rw [map_set_modify absL (comeA · m.d) _ _ _ _ hl (abs_come l m)]
theorem SOk.set {S : NS} (h : SOk S) {i : Nat} {l l' : LC} (hl : S.ls[i]? = some l) (hla : l'.la = l.la) : SOk (wLs S i l') :=
  ⟨fun j x hx => by
    by_cases e : i = j
    · subst e
      rw [set_get hl] at hx
      obtain rfl := Option.some.inj hx
      rw [hla]
      exact h.la i l hl
    · rw [List.getElem?_set_ne e] at hx
      exact h.la j x hx, fun p hp => by
    have := h.pd p hp
    simpa using this, h.bd, by simpa using h.n, h.fk⟩
theorem nr_come {N : Nat} {S : NS} {i : Nat} {l : LC} {m : Msg} (hl : S.ls[i]? = some l) (hm : ∀ k, m.v.ownBlock = some k → N ≤ k) {k : Nat} (hk : rds (wLs S i (comeL l m)) k) : rds S k ∨ N ≤ k := by
  rcases hk with hk | ⟨x, hx, hk⟩
  · exact .inl (.inl hk)
  · rcases msgs_set hx with h1 | h1
    · rcases comeL_ms h1 with rfl | h1
      · exact .inr (hm k hk)
      · exact .inl (.inr ⟨x, List.mem_append.2 (.inl (List.mem_flatMap.2 ⟨l, get_mem hl, h1⟩)), hk⟩)
    · exact .inl (.inr ⟨x, h1, hk⟩)
theorem post0 {N : Nat} (w : World) (S : NS) (i : Nat) (l : LC) (m : Msg) (h : NOk w S) (k : SOk S) (hl : S.ls[i]? = some l) (ho : l.sh = false) (hm : Ow w 0 m.v m.d) (hN : ∀ k, m.v.ownBlock = some k → N ≤ k) (hF : ∀ x, m.v.ownBlock = some x → cm S x = 0) :
    Calls Try.prog 50 #[.pointer (some ⟨S.nb, 0, none⟩), .int .i64 (i : Int), m.v, .int .i64 0] w fun e w' => e = .returned (.tuple #[]) ∧ ∃ S', Stp N 0 w w' S S' (postA (abs S) i m.d 0) ∧ S'.ls.map (·.sh) = S.ls.map (·.sh) := by
  refine (post_now w S i l m h hl ho hm).mono ?_
  rintro e w' ⟨rfl, h1, f1⟩
  refine ⟨rfl, wLs S i (comeL l m), ⟨h1, k.set hl (comeL_la l m), ?_, fr_own hl f1, fun x hx => .inl ((own_set hl (comeL_c l m)).1 hx), fun x hx => nr_come hl hN hx, rfl, Nat.le_refl _, fun h => h.more (fun x => cm_come hl m x) hF⟩, map_set_same _ _ _ _ _ hl (comeL_sh l m)⟩
  rw [postA, if_pos rfl]
  exact abs_put hl
theorem abs_pd {S : NS} {i n : Nat} {l : LC} {m : Msg} {v' : Value} {la : Nat} (hl : S.ls[i]? = some l) (hn : 0 < n) : abs (wLs (wPd S ⟨S.now + n, i, m⟩ v') i { l with la := la }) = postA (abs S) i m.d n := by
  rw [postA, if_neg (by omega)]
  unfold abs
  dsimp only
  rw [map_set_same absL _ _ _ { l with la := la } hl rfl]
  simp [absP]
theorem countP_app (pd : List PC) (p : PC) (j : Nat) : (pd ++ [p]).countP (fun p => p.i == j) = pd.countP (fun p => p.i == j) + if p.i = j then 1 else 0 := by
  rw [List.countP_append]
  by_cases h : p.i = j
  · simp [h]
  · simp [h]
theorem SOk.post {S : NS} (h : SOk S) {i n : Nat} {l : LC} {m : Msg} {v' : Value} (hl : S.ls[i]? = some l) (hn : 0 < n) : SOk (wLs (wPd S ⟨S.now + n, i, m⟩ v') i { l with la := l.la + 1 }) := by
  have hi := (List.getElem?_eq_some_iff.1 hl).1
  refine ⟨fun j x hx => ?_, fun p hp => ?_, ?_, by simpa using h.n, h.fk⟩
  · show x.la = (S.pd ++ [(⟨S.now + n, i, m⟩ : PC)]).countP (fun p : PC => p.i == j)
    rw [countP_app]
    by_cases e : i = j
    · subst e
      rw [set_get hl] at hx
      obtain rfl := Option.some.inj hx
      rw [if_pos rfl, ← h.la i l hl]
    · rw [List.getElem?_set_ne e] at hx
      rw [if_neg e, Nat.add_zero]
      exact h.la j x hx
  · have hp' : p ∈ S.pd ++ [⟨S.now + n, i, m⟩] := hp
    show S.now < p.t ∧ p.i < (S.ls.set i { l with la := l.la + 1 }).length
    rw [List.length_set]
    rcases List.mem_append.1 hp' with hp' | hp'
    · exact h.pd p hp'
    · obtain rfl := List.mem_singleton.1 hp'
      exact ⟨by dsimp only; omega, hi⟩
  · show (S.pd ++ [_]).length ≤ S.mn + 1
    have := h.bd
    simp
    exact this
theorem postN {N : Nat} (w : World) (S : NS) (i n : Nat) (l : LC) (m : Msg) (h : NOk w S) (k : SOk S) (hl : S.ls[i]? = some l) (ho : l.sh = false) (hm : Ow w 0 m.v m.d) (hN : ∀ k, m.v.ownBlock = some k → N ≤ k) (hF : ∀ x, m.v.ownBlock = some x → cm S x = 0)
    (hn2 : S.now + n ≤ 4611686018427387904) (hmn : S.mn ≤ 549755813888) :
    Calls Try.prog 50 #[.pointer (some ⟨S.nb, 0, none⟩), .int .i64 (i : Int), m.v, .int .i64 (n : Int)] w fun e w' => e = .returned (.tuple #[]) ∧ ∃ S', Stp N 1 w w' S S' (postA (abs S) i m.d n) ∧ S'.ls.map (·.sh) = S.ls.map (·.sh) := by
  by_cases hn : n = 0
  · subst hn
    refine (post0 (N := N) w S i l m h k hl ho hm hN hF).mono ?_
    rintro e w' ⟨rfl, S', h1, h2⟩
    exact ⟨rfl, S', ⟨h1.ok, h1.so, h1.ab, h1.fr, h1.no, h1.nr, h1.nb, Nat.le_succ_of_le h1.mn, h1.ap⟩, h2⟩
  · have hla : l.la ≤ S.pd.length := by rw [k.la i l hl]; exact List.countP_le_length
    have hbd := k.bd
    refine (post_late w S i n l m h hl ho hm (by omega) hn2 (by simp only [maxLen]; omega) (by omega) (by omega)).mono ?_
    rintro e w' ⟨rfl, v', h1, f1, fs1⟩
    refine ⟨rfl, _, ⟨h1, k.post hl (by omega), abs_pd hl (by omega), f1, fun x hx => ?_, fun x hx => ?_, rfl, Nat.le_refl _, fun h => h.more (fun x => ?_) hF⟩, map_set_same _ _ _ _ _ hl rfl⟩
    · have hx := (own_set (S := wPd S ⟨S.now + n, i, m⟩ v') (l' := { l with la := l.la + 1 }) hl rfl).1 hx
      rcases hx with hx | hx | hx | hx | ⟨t, ht⟩
      · exact .inl (.inl hx)
      · exact .inl (.inr (.inl hx))
      · exact .inl (.inr (.inr (.inl hx)))
      · exact .inl (.inr (.inr (.inr (.inl hx))))
      · have ht' : (if t = S.now + n then v' else S.rows t).ownBlock = some x := ht
        by_cases e : t = S.now + n
        · rw [if_pos e] at ht'
          rcases fs1 x ht' with h2 | h2
          · exact .inl (.inr (.inr (.inr (.inr ⟨_, h2⟩))))
          · exact .inr h2
        · rw [if_neg e] at ht'
          exact .inl (.inr (.inr (.inr (.inr ⟨t, ht'⟩))))
    · rcases hx with hx | ⟨y, hy, hx⟩
      · exact .inl (.inl hx)
      · rcases msgs_set (S := wPd S ⟨S.now + n, i, m⟩ v') hy with h2 | h2
        · exact .inl (.inr ⟨y, List.mem_append.2 (.inl (List.mem_flatMap.2 ⟨l, get_mem hl, h2⟩)), hx⟩)
        · rcases msgs_pd h2 with rfl | h2
          · exact .inr (hN x hx)
          · exact .inl (.inr ⟨y, h2, hx⟩)
    · have h2 := cm_set (S := wPd S ⟨S.now + n, i, m⟩ v') (l' := { l with la := l.la + 1 }) hl x
      have h3 : cm (wPd S ⟨S.now + n, i, m⟩ v') x = cm S x + bit m x := by
        unfold cm msgs
        show cmL (S.ls.flatMap (·.ms) ++ (S.pd ++ [(⟨S.now + n, i, m⟩ : PC)]).map (·.m)) x = _
        rw [List.map_append, cmL_app, cmL_app, cmL_app, List.map_cons, List.map_nil, cmL_one]
        have h5 : bit (⟨S.now + n, i, m⟩ : PC).m x = bit m x := rfl
        omega
      have h4 : cmL ({ l with la := l.la + 1 } : LC).ms x = cmL l.ms x := rfl
      omega
end Go.Proofs.Ytdlfkdehfenemaa
