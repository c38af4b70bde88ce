import Derived.Test.YtgfehlcindapmaaHe
namespace Go.Proofs.Ytgfehlcindapmaa
open Go.RowKit Go.Conc TextNum
theorem putL_mem : ∀ {D : List Co} {c x : Co}, x ∈ putL D c → x = c ∨ x ∈ D
  | [], c, x, h => by
    simp only [putL, List.mem_singleton] at h
    exact .inl h
  | y :: r, c, x, h => by
    unfold putL at h
    split at h
    · rcases List.mem_cons.1 h with h | h
      · exact .inl h
      · exact .inr h
    · rcases List.mem_cons.1 h with h | h
      · exact .inr (by simp [h])
      · exact (putL_mem h).imp id fun h => by simp [h]
theorem fold_mem : ∀ {cs D : List Co} {x : Co}, x ∈ cs.foldl putL D → x ∈ cs ∨ x ∈ D
  | [], _, _, h => .inr h
  | c :: r, D, x, h => by
    rcases fold_mem (cs := r) h with h | h
    · exact .inl (by simp [h])
    · exact (putL_mem h).imp (fun h => by simp [h]) id
theorem fold_len : ∀ (cs D : List Co), (cs.foldl putL D).length ≤ D.length + cs.length
  | [], _ => Nat.le_refl _
  | c :: r, D => by
    have h1 := fold_len r (putL D c)
    have h2 := putL_len D c
    rw [List.foldl_cons, List.length_cons]
    omega
theorem FoL.len {t m : Nat} : ∀ {cs : List Co} {ps : List (List UInt8 × Nat)}, FoL t m cs ps → cs.length = ps.length
  | [], [], _ => rfl
  | _ :: _, _ :: _, h => by rw [List.length_cons, List.length_cons, FoL.len h.2]
  | [], _ :: _, h => by cases h
  | _ :: _, [], h => by cases h
theorem FoL.late {t m N : Nat} : ∀ {cs : List Co} {ps : List (List UInt8 × Nat)}, FoL t m cs ps → (∀ p ∈ ps, p.2 ≤ N) → ∀ c ∈ cs, c.t ≤ t + N
  | [], [], _, _, _, hc => by cases hc
  | c :: r, p :: s, h, hp, x, hx => by
    rcases List.mem_cons.1 hx with rfl | hx
    · have := h.1.1
      have := hp p (by simp)
      omega
    · exact FoL.late h.2 (fun p h => hp p (by simp [h])) x hx
  | [], _ :: _, h, _, _, _ => by cases h
  | _ :: _, [], h, _, _, _ => by cases h
theorem posts_len (d : List UInt8) (f : Int × Int) : (posts d f).length ≤ 2 := by
  unfold posts
  (repeat' split) <;> simp
theorem posts_late (d : List UInt8) (f : Int × Int) : ∀ p ∈ posts d f, p.2 ≤ f.2.toNat := by
  unfold posts
  (repeat' split) <;> simp
theorem sendA_posts (A : AN) (i : Nat) (d : List UInt8) (f : Int × Int) : sendA A i d f = (posts d f).foldl (fun A p => postA A i p.1 p.2) A := by
  unfold sendA posts
  (repeat' split) <;> rfl
theorem CV.posts {k i : Nat} : ∀ {ps : List (List UInt8 × Nat)} {cs : List Co} {A : AN} {D : List Co}, CV k i A D → FoL A.now i cs ps → D.length + ps.length ≤ 64 → CV k i (ps.foldl (fun A p => postA A k p.1 p.2) A) (cs.foldl putL D)
  | [], [], _, _, h, _, _ => h
  | p :: s, c :: r, A, D, h, hf, hl => by
    rw [List.length_cons] at hl
    have h2 := putL_len D c
    exact CV.posts (ps := s) (cs := r) (A := postA A k p.1 p.2) (D := putL D c) (h.post (by omega) hf.1) (by rw [postA_now]; exact hf.2) (by omega)
  | [], _ :: _, _, _, _, h, _ => by cases h
  | _ :: _, [], _, _, _, h, _ => by cases h
theorem CV.others {k i j : Nat} (hj : j ≠ k) : ∀ {ps : List (List UInt8 × Nat)} {A : AN} {D : List Co}, CV k i A D → CV k i (ps.foldl (fun A p => postA A j p.1 p.2) A) D
  | [], _, _, h => h
  | p :: s, A, _, h => CV.others hj (ps := s) (A := postA A j p.1 p.2) (h.other hj p.1 p.2)
theorem arr_k {k : Nat} : ∀ (ps : List (Nat × Nat × List UInt8)) (A : AN) (q : List (List UInt8)), A.ls[k]? = some (q, false) → q.length + (ps.filter fun p => p.2.1 == k).length ≤ 64 → (arrA A ps).ls[k]? = some (q ++ (ps.filter fun p => p.2.1 == k).map (·.2.2), false)
  | [], A, q, h, _ => by rw [List.filter_nil, List.map_nil, List.append_nil]; exact h
  | p :: r, A, q, h, hl => by
    rw [show arrA A (p :: r) = arrA (putA A p.2.1 p.2.2) r from rfl]
    by_cases e : p.2.1 = k
    · rw [List.filter_cons_of_pos (by simp [e]), List.length_cons] at hl
      have hp : (putA A p.2.1 p.2.2).ls[k]? = some (q ++ [p.2.2], false) := by
        show (A.ls.modify p.2.1 (comeA · p.2.2))[k]? = _
        rw [e, List.getElem?_modify_eq, h]
        show some (comeA (q, false) p.2.2) = _
        unfold comeA
        dsimp only
        rw [if_pos (by omega)]
      rw [arr_k r _ _ hp (by rw [List.length_append, List.length_singleton]; omega), List.filter_cons_of_pos (by simp [e]), List.map_cons, List.append_assoc]
      rfl
    · rw [List.filter_cons_of_neg (by simp [e])] at hl
      have hp : (putA A p.2.1 p.2.2).ls[k]? = some (q, false) := by
        show (A.ls.modify p.2.1 (comeA · p.2.2))[k]? = _
        rw [List.getElem?_modify_ne _ _ e, h]
      rw [arr_k r _ _ hp hl, List.filter_cons_of_neg (by simp [e])]
theorem split_le {N : Nat} : ∀ {D : List Co}, Ord D → D.filter (fun x => decide (x.t ≤ N + 1)) = D.filter (fun x => decide (x.t ≤ N)) ++ D.filter (fun x => x.t == N + 1)
  | [], _ => rfl
  | x :: r, h => by
    have ih := split_le (N := N) h.2
    rcases Nat.lt_trichotomy x.t (N + 1) with e | e | e
    · rw [List.filter_cons_of_pos (by simp; omega), List.filter_cons_of_pos (by simp; omega), List.filter_cons_of_neg (by simp; omega), ih, List.cons_append]
    · have h0 : r.filter (fun x => decide (x.t ≤ N)) = [] := filter_none fun y hy => by
        have := h.1 y hy
        simp
        omega
      rw [List.filter_cons_of_pos (by simp; omega), List.filter_cons_of_neg (by simp; omega), List.filter_cons_of_pos (by simp; omega), ih, h0, List.nil_append, List.nil_append]
    · rw [List.filter_cons_of_neg (by simp; omega), List.filter_cons_of_neg (by simp; omega), List.filter_cons_of_neg (by simp; omega), ih]
theorem tickA_now (A : AN) : (tickA A).now = A.now + 1 := by
  have h := (arrA_pd (A.pd.filter fun p => p.1 == A.now + 1) { A with now := A.now + 1 }).2.1
  exact h
theorem CV.tick {k i : Nat} {A : AN} {D : List Co} (h : CV k i A D) (hl : D.length ≤ 64) : CV k i (tickA A) D := by
  have e0 := tickA_now A
  have e1 : ((A.pd.filter fun p => p.1 == A.now + 1).filter fun p => p.2.1 == k) = A.pd.filter fun p => p.1 == A.now + 1 && p.2.1 == k := by
    rw [List.filter_filter]
    exact filter_same fun p _ => Bool.and_comm _ _
  have e2 := h.pd (A.now + 1) (by omega)
  have e3 := split_le (N := A.now) h.od
  have e4 := len_filter_le (fun x : Co => decide (x.t ≤ A.now + 1)) D
  refine ⟨?_, fun t ht => ?_, fun p hp hk => ?_, h.od, fun x hx ht => h.dr x hx (by omega), h.nm⟩
  · rw [e0]
    show (arrA { A with now := A.now + 1 } (A.pd.filter fun p => p.1 == A.now + 1)).ls[k]? = _
    rw [arr_k _ { A with now := A.now + 1 } _ h.ls ?_, e1, e2, e3, List.map_append]
    rw [e1]
    have e5 := congrArg List.length e2
    rw [List.length_map, List.length_map] at e5
    rw [e3, List.length_append] at e4
    rw [List.length_map, e5]
    omega
  · rw [e0] at ht
    rw [← h.pd t (by omega)]
    show ((A.pd.filter fun p => p.1 != A.now + 1).filter fun p => p.1 == t && p.2.1 == k).map (·.2.2) = _
    rw [List.filter_filter]
    congr 1
    apply filter_same
    intro p _
    by_cases e : p.1 = t
    · have : (p.1 != A.now + 1) = true := by simp; omega
      rw [this, Bool.and_true]
    · simp [e]
  · rw [e0]
    have hp' : p ∈ A.pd.filter fun p => p.1 != A.now + 1 := hp
    obtain ⟨h1, h2⟩ := List.mem_filter.1 hp'
    have := h.fu p h1 hk
    have h3 : p.1 ≠ A.now + 1 := by simpa using h2
    omega
theorem CV.it {k i : Nat} {A : AN} {D : List Co} (h : CV k i A D) (hl : D.length ≤ 64) : ∀ n, CV k i (itA n A) D
  | 0 => h
  | n + 1 => (h.it hl n).tick hl
theorem it_fs : ∀ (n : Nat) (A : AN), (itA n A).fs = A.fs
  | 0, _ => rfl
  | n + 1, A => by
    have h := (arrA_pd ((itA n A).pd.filter fun p => p.1 == (itA n A).now + 1) { itA n A with now := (itA n A).now + 1 }).2.2.1
    show (arrA { itA n A with now := (itA n A).now + 1 } ((itA n A).pd.filter fun p => p.1 == (itA n A).now + 1)).fs = _
    rw [h]
    exact it_fs n A
theorem post_fs (A : AN) (i : Nat) (d : List UInt8) (n : Nat) : (postA A i d n).fs = A.fs := by
  unfold postA
  split <;> rfl
theorem send_fs (A : AN) (i : Nat) (d : List UInt8) (f : Int × Int) : (sendA A i d f).fs = A.fs := by
  unfold sendA
  (repeat' split) <;> simp only [post_fs]
/-- a message, and what must come of it -/
theorem CV.sn {k j : Nat} {A : AN} {D : List Co} {q : Sn} {r : List Sn} (h : CV k j A D) (hf : A.fs = ftl true true (q :: r)) (hi : q.i < 2) (hl : D.length + 2 ≤ 64) :
    (snA true true A q).fs = ftl true true r ∧ (q.i ≠ k → CV k j (snA true true A q) D) ∧ ∀ cs, q.i = k → FoL (A.now + q.g) j cs (Go.Proofs.Ytgfehlcindapmaa.posts q.d (q.k, q.n)) → CV k j (snA true true A q) (cs.foldl putL D) := by
  have hit := h.it (by omega) q.g
  have hs : sel true true q = true := by
    have : q.i = 0 ∨ q.i = 1 := by omega
    unfold sel
    rcases this with e | e <;> rw [e] <;> rfl
  have hft : ftl true true (q :: r) = (q.k, q.n) :: ftl true true r := by
    unfold ftl
    rw [List.filter_cons_of_pos hs, List.map_cons]
  have hn : nextA (itA q.g A) = ((q.k, q.n), { itA q.g A with fs := ftl true true r }) := by
    unfold nextA
    rw [it_fs, hf, hft]
  unfold snA
  rw [if_pos hs]
  unfold SendA
  rw [hn]
  dsimp only
  refine ⟨by rw [send_fs], fun hk => ?_, fun cs hk hc => ?_⟩
  · rw [sendA_posts]
    exact CV.others hk (hit.fs _)
  · rw [sendA_posts, hk]
    refine CV.posts (hit.fs _) ?_ ?_
    · show FoL (itA q.g A).now j cs _
      rw [itA_now]
      exact hc
    · have := posts_len q.d (q.k, q.n)
      omega
/-- what is waited for is the next that must come -/
theorem CV.aw {k i : Nat} : ∀ (n : Nat) {A : AN} {c : Co} {D : List Co}, CV k i A (c :: D) → c.t ≤ A.now + n → (c :: D).length ≤ 64 → ∃ A', awA n A [k] = ((k, c.d, 0), A') ∧ CV k i A' D ∧ A'.now = max A.now c.t := by
  have key : ∀ (n : Nat) {A : AN} {c : Co} {D : List Co}, CV k i A (c :: D) → c.t ≤ A.now → ∃ A', awA n A [k] = ((k, c.d, 0), A') ∧ CV k i A' D ∧ A'.now = max A.now c.t := by
    intro n A c D h hc
    have hls := h.ls
    rw [List.filter_cons_of_pos (by simpa using hc), List.map_cons] at hls
    have e : hasA A k = true := by unfold hasA; rw [hls]; rfl
    have f : firstA A k = c.d := by unfold firstA; rw [hls]; rfl
    refine ⟨popA A k, by rw [awA_some (i := k) (by simp [e]), f], ⟨?_, fun t ht => ?_, h.fu, h.od.2, fun x hx => h.dr x (by simp [hx]), fun x hx => h.nm x (by simp [hx])⟩, ?_⟩
    · show (A.ls.modify k fun x => (x.1.tail, x.2))[k]? = _
      rw [List.getElem?_modify_eq, hls]
      rfl
    · have ht' : A.now < t := ht
      have := h.pd t ht'
      rw [List.filter_cons_of_neg (by simp; omega)] at this
      exact this
    · show A.now = max A.now c.t
      omega
  intro n
  induction n with
  | zero =>
    intro A c D h hc _
    exact key 0 h (by omega)
  | succ n ih =>
    intro A c D h hc hl
    by_cases hle : c.t ≤ A.now
    · exact key (n + 1) h hle
    · have h0 : (c :: D).filter (fun x => decide (x.t ≤ A.now)) = [] := filter_none fun y hy => by
        rcases List.mem_cons.1 hy with rfl | hy
        · simpa using hle
        · have := h.od.1 y hy
          simp
          omega
      have hls := h.ls
      rw [h0, List.map_nil] at hls
      have e : hasA A k = false := by unfold hasA; rw [hls]; rfl
      have f : endA A k = false := by unfold endA; rw [hls]; rfl
      obtain ⟨A', h1, h2, h3⟩ := ih (h.tick hl) (by rw [tickA_now]; omega) hl
      refine ⟨A', ?_, h2, ?_⟩
      · rw [awA_tick (by simp [e]) (by simp [f]), h1]
      · rw [h3, tickA_now]
        omega
def clA (A : AN) (k : Nat) : AN := { A with ls := A.ls.modify k fun x => (x.1, true) }
theorem CV.over {k i : Nat} {A : AN} (h : CV k i A []) (n : Nat) : awA n (clA A k) [k] = ((0, [], 191), clA A k) := by
  have hls : (clA A k).ls[k]? = some ([], true) := by
    show (A.ls.modify k fun x => (x.1, true))[k]? = _
    rw [List.getElem?_modify_eq, h.ls]
    rfl
  have hp : (clA A k).pd.any (fun p => p.2.1 == k) = false := by
    rw [List.any_eq_false]
    intro p hp hk
    have hk' : p.2.1 = k := by simpa using hk
    have h1 := h.pd p.1 (h.fu p hp hk')
    rw [List.filter_nil, List.map_nil] at h1
    have h2 : p ∈ A.pd.filter fun x => x.1 == p.1 && x.2.1 == k := List.mem_filter.2 ⟨hp, by simp [hk']⟩
    rw [List.map_eq_nil_iff.1 h1] at h2
    cases h2
  refine awA_end ?_ ?_
  · have : hasA (clA A k) k = false := by unfold hasA; rw [hls]; rfl
    simp [this]
  · have : endA (clA A k) k = true := by unfold endA; rw [hls, hp]; rfl
    simp [this]
theorem CV.start (k i : Nat) (hk : k < 2) (fs : List (Int × Int)) : CV k i ⟨0, fs, [([], false), ([], false)], []⟩ [] := by
  refine ⟨?_, fun t _ => rfl, fun p hp => (by cases hp), trivial, fun x hx => (by cases hx), fun x hx => (by cases hx)⟩
  have : k = 0 ∨ k = 1 := by omega
  rcases this with rfl | rfl <;> rfl
theorem LJ.shut {w wr : World} {S : NS} {A : AN} {k K : Nat} (h : LJ w wr S A K) {x : List (List UInt8)} (hx : A.ls[k]? = some (x, false)) :
    Calls Try.prog 23 #[.pointer (some ⟨S.nb, 0, none⟩), .int .i64 (k : Int)] wr fun e w' => e = .returned (.int .i64 0) ∧ ∃ S', Stp wr.heap.size 0 wr w' S S' (clA A k) := by
  obtain ⟨l, hl, hs, hm⟩ := abs_get (i := k) h.ab hx
  refine (Close_yes wr S k l h.ok hl hs).mono ?_
  rintro e w' ⟨rfl, h1, h2⟩
  refine ⟨rfl, wLs S k { l with sh := true }, ⟨h1, h.so.set hl rfl, ?_, h2, fun x hx => .inl ((own_set (l' := { l with sh := true }) hl rfl).1 hx), fun x hx => .inl ?_, rfl, Nat.le_refl _⟩⟩
  · have e := map_set_modify absL (fun x => (x.1, true)) S.ls k l { l with sh := true } hl rfl
    rw [← h.ab]
    unfold abs clA
    dsimp only
    rw [e]
  · rcases hx with hx | ⟨z, hz, hx⟩
    · exact .inl hx
    · rcases msgs_set hz with h3 | h3
      · exact .inr ⟨z, List.mem_append.2 (.inl (List.mem_flatMap.2 ⟨l, get_mem hl, h3⟩)), hx⟩
      · exact .inr ⟨z, h3, hx⟩
end Go.Proofs.Ytgfehlcindapmaa
