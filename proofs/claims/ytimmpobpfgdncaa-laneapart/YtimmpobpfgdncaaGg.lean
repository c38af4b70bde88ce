import Derived.Test.YtimmpobpfgdncaaGa
namespace Go.Proofs.Ytimmpobpfgdncaa
open Go.RowKit Go.Conc TextNum
/-! ### lane 1 by itself -/
structure Vs where
  now : Nat
  q : List (List UInt8)
  pd : List (Nat × Nat × List UInt8)
def Vw (A : AN) (v : Vs) : Prop := A.now = v.now ∧ A.ls[1]? = some (v.q, false) ∧ A.pd.filter (fun p => p.2.1 == 1) = v.pd
def comeQ (q : List (List UInt8)) (d : List UInt8) : List (List UInt8) := if q.length < 64 then q ++ [d] else q
def comeV (v : Vs) (d : List UInt8) : Vs := { v with q := comeQ v.q d }
def tickV (v : Vs) : Vs := ⟨v.now + 1, (v.pd.filter fun p => p.1 == v.now + 1).foldl (fun q p => comeQ q p.2.2) v.q, v.pd.filter fun p => p.1 != v.now + 1⟩
def itV : Nat → Vs → Vs
  | 0, v => v
  | n + 1, v => tickV (itV n v)
def postV (v : Vs) (d : List UInt8) (n : Nat) : Vs := if n = 0 then comeV v d else { v with pd := v.pd ++ [(v.now + n, 1, d)] }
def sendV (v : Vs) (d : List UInt8) (f : Int × Int) : Vs :=
  if f.1 = 0 then postV v d 0
  else if f.1 = 1 then v
  else if f.1 = 2 then postV (postV v d 0) d f.2.toNat
  else if f.1 = 3 then postV v d f.2.toNat
  else if f.1 = 4 then postV v (d.take f.2.toNat) 0
  else if f.1 = 5 then postV v (spl d f.2.toNat) 0
  else v
def awV : Nat → Vs → (List UInt8 × Int) × Vs
  | 0, v => match v.q with
    | d :: r => ((d, 0), { v with q := r })
    | [] => (([], 190), v)
  | n + 1, v => match v.q with
    | d :: r => ((d, 0), { v with q := r })
    | [] => awV n (tickV v)
def snV (v : Vs) (q : Sn) : Vs := if q.i = 1 then sendV (itV q.g v) q.d (q.k, q.n) else itV q.g v
theorem comeA_q (q : List (List UInt8)) (d : List UInt8) : comeA (q, false) d = (comeQ q d, false) := by
  unfold comeA comeQ
  dsimp only
  split <;> rfl
theorem Vw.put1 {A : AN} {v : Vs} (h : Vw A v) (d : List UInt8) : Vw (putA A 1 d) (comeV v d) := by
  refine ⟨h.1, ?_, h.2.2⟩
  show (A.ls.modify 1 (comeA · d))[1]? = _
  rw [List.getElem?_modify_eq, h.2.1]
  simp [comeA_q, comeV]
theorem Vw.put0 {A : AN} {v : Vs} (h : Vw A v) {i : Nat} (hi : i ≠ 1) (d : List UInt8) : Vw (putA A i d) v := by
  refine ⟨h.1, ?_, h.2.2⟩
  show (A.ls.modify i (comeA · d))[1]? = _
  rw [List.getElem?_modify_ne _ _ hi]
  exact h.2.1
theorem Vw.post1 {A : AN} {v : Vs} (h : Vw A v) (d : List UInt8) (n : Nat) : Vw (postA A 1 d n) (postV v d n) := by
  unfold postA postV
  split
  · exact h.put1 d
  · refine ⟨h.1, h.2.1, ?_⟩
    show (A.pd ++ [(A.now + n, 1, d)]).filter _ = _
    rw [List.filter_append, h.2.2, h.1]
    rfl
theorem Vw.post0 {A : AN} {v : Vs} (h : Vw A v) {i : Nat} (hi : i ≠ 1) (d : List UInt8) (n : Nat) : Vw (postA A i d n) v := by
  unfold postA
  split
  · exact h.put0 hi d
  · refine ⟨h.1, h.2.1, ?_⟩
    show (A.pd ++ [(A.now + n, i, d)]).filter _ = _
    rw [List.filter_append, h.2.2]
    simp [hi]
theorem Vw.send1 {A : AN} {v : Vs} (h : Vw A v) (d : List UInt8) (f : Int × Int) : Vw (sendA A 1 d f) (sendV v d f) := by
  unfold sendA sendV
  split
  · exact h.post1 _ _
  split
  · exact h
  split
  · exact (h.post1 _ _).post1 _ _
  split
  · exact h.post1 _ _
  split
  · exact h.post1 _ _
  split
  · exact h.post1 _ _
  · exact h
theorem Vw.send0 {A : AN} {v : Vs} (h : Vw A v) {i : Nat} (hi : i ≠ 1) (d : List UInt8) (f : Int × Int) : Vw (sendA A i d f) v := by
  unfold sendA
  split
  · exact h.post0 hi _ _
  split
  · exact h
  split
  · exact (h.post0 hi _ _).post0 hi _ _
  split
  · exact h.post0 hi _ _
  split
  · exact h.post0 hi _ _
  split
  · exact h.post0 hi _ _
  · exact h
theorem arr_q : ∀ (ps : List (Nat × Nat × List UInt8)) (A : AN) (q : List (List UInt8)), A.ls[1]? = some (q, false) → (arrA A ps).ls[1]? = some ((ps.filter fun p => p.2.1 == 1).foldl (fun q p => comeQ q p.2.2) q, false)
  | [], A, q, h => h
  | p :: r, A, q, h => by
    have hp : (putA A p.2.1 p.2.2).ls[1]? = some (if p.2.1 = 1 then comeQ q p.2.2 else q, false) := by
      show (A.ls.modify p.2.1 (comeA · p.2.2))[1]? = _
      by_cases e : p.2.1 = 1
      · rw [e, List.getElem?_modify_eq, h, if_pos rfl]
        simp [comeA_q]
      · rw [List.getElem?_modify_ne _ _ e, h, if_neg e]
    have := arr_q r (putA A p.2.1 p.2.2) _ hp
    rw [show arrA A (p :: r) = arrA (putA A p.2.1 p.2.2) r from rfl, this]
    by_cases e : p.2.1 = 1
    · rw [List.filter_cons_of_pos (by simp [e]), List.foldl_cons, if_pos e]
    · rw [List.filter_cons_of_neg (by simp [e]), if_neg e]
theorem filter_swap {α : Type} (p q : α → Bool) (l : List α) : (l.filter p).filter q = (l.filter q).filter p := by
  rw [List.filter_filter, List.filter_filter]
  congr 1
  funext x
  exact Bool.and_comm _ _
theorem Vw.tick {A : AN} {v : Vs} (h : Vw A v) : Vw (tickA A) (tickV v) := by
  have h0 := arrA_pd (A.pd.filter fun p => p.1 == A.now + 1) { A with now := A.now + 1 }
  refine ⟨?_, ?_, ?_⟩
  · show (arrA { A with now := A.now + 1 } _).now = v.now + 1
    rw [h0.2.1, ← h.1]
  · show (arrA { A with now := A.now + 1 } (A.pd.filter fun p => p.1 == A.now + 1)).ls[1]? = _
    rw [arr_q _ { A with now := A.now + 1 } v.q h.2.1, filter_swap, h.2.2, h.1]
    rfl
  · show (A.pd.filter fun p => p.1 != A.now + 1).filter (fun p => p.2.1 == 1) = v.pd.filter fun p => p.1 != v.now + 1
    rw [filter_swap, h.2.2, h.1]
theorem Vw.it {A : AN} {v : Vs} (h : Vw A v) : ∀ n, Vw (itA n A) (itV n v)
  | 0 => h
  | n + 1 => (h.it n).tick
theorem Vw.aw : ∀ (n : Nat) {A : AN} {v : Vs}, Vw A v → (awA n A [1]).1.2.1 = (awV n v).1.1 ∧ (awA n A [1]).1.2.2 = (awV n v).1.2 ∧ Vw (awA n A [1]).2 (awV n v).2 := by
  have key : ∀ {A : AN} {v : Vs}, Vw A v → ∀ d r, v.q = d :: r → ∀ n, awA n A [1] = ((1, d, 0), popA A 1) ∧ Vw (popA A 1) { v with q := r } := by
    intro A v h d r hq n
    have e : hasA A 1 = true := by unfold hasA; rw [h.2.1, hq]; rfl
    have f : firstA A 1 = d := by unfold firstA; rw [h.2.1, hq]; rfl
    refine ⟨by rw [awA_some (i := 1) (by simp [e]), f], h.1, ?_, h.2.2⟩
    show (A.ls.modify 1 fun x => (x.1.tail, x.2))[1]? = _
    rw [List.getElem?_modify_eq, h.2.1, hq]
    rfl
  have no : ∀ {A : AN} {v : Vs}, Vw A v → v.q = [] → [1].find? (hasA A) = none ∧ ¬ [1].all (endA A) = true := by
    intro A v h hq
    have e : hasA A 1 = false := by unfold hasA; rw [h.2.1, hq]; rfl
    have f : endA A 1 = false := by unfold endA; rw [h.2.1]; rfl
    exact ⟨by simp [e], by simp [f]⟩
  intro n
  induction n with
  | zero =>
    intro A v h
    cases hq : v.q with
    | nil =>
      rw [awA_out (no h hq).1 (no h hq).2, awV, hq]
      exact ⟨rfl, rfl, h⟩
    | cons d r =>
      rw [(key h d r hq 0).1, awV, hq]
      exact ⟨rfl, rfl, (key h d r hq 0).2⟩
  | succ n ih =>
    intro A v h
    cases hq : v.q with
    | nil =>
      rw [awA_tick (no h hq).1 (no h hq).2, awV, hq]
      exact ih h.tick
    | cons d r =>
      rw [(key h d r hq (n + 1)).1, awV, hq]
      exact ⟨rfl, rfl, (key h d r hq 0).2⟩
theorem itA_fs : ∀ (n : Nat) (A : AN), (itA n A).fs = A.fs
  | 0, _ => rfl
  | n + 1, A => by
    have h := (arrA_pd ((itA n A).pd.filter fun p => p.1 == (itA n A).now + 1) { itA n A with now := (itA n A).now + 1 }).2.2.1
    show (arrA { itA n A with now := (itA n A).now + 1 } ((itA n A).pd.filter fun p => p.1 == (itA n A).now + 1)).fs = _
    rw [h]
    exact itA_fs n A
theorem postA_fs (A : AN) (i : Nat) (d : List UInt8) (n : Nat) : (postA A i d n).fs = A.fs := by
  unfold postA
  split <;> rfl
theorem sendA_fs (A : AN) (i : Nat) (d : List UInt8) (f : Int × Int) : (sendA A i d f).fs = A.fs := by
  unfold sendA
  (repeat' split) <;> simp only [postA_fs]
theorem Vw.fs {A : AN} {v : Vs} (h : Vw A v) (fs : List (Int × Int)) : Vw { A with fs := fs } v := h
theorem Vw.sn {x : Bool} {A : AN} {v : Vs} {q : Sn} {r : List Sn} (h : Vw A v) (hf : A.fs = ftl x true (q :: r)) : Vw (snA x true A q) (snV v q) ∧ (snA x true A q).fs = ftl x true r := by
  have hit := h.it q.g
  unfold snA snV
  by_cases hs : sel x true q = true
  · rw [if_pos hs]
    have hft : ftl x true (q :: r) = (q.k, q.n) :: ftl x true r := by
      unfold ftl
      rw [List.filter_cons_of_pos hs, List.map_cons]
    have hn : nextA (itA q.g A) = ((q.k, q.n), { itA q.g A with fs := ftl x true r }) := by
      unfold nextA
      rw [itA_fs, hf, hft]
    unfold SendA
    rw [hn]
    dsimp only
    refine ⟨?_, by rw [sendA_fs]⟩
    by_cases h1 : q.i = 1
    · rw [h1, if_pos rfl]
      exact (hit.fs _).send1 _ _
    · rw [if_neg h1]
      exact (hit.fs _).send0 h1 _ _
  · rw [if_neg hs]
    have hft : ftl x true (q :: r) = ftl x true r := by
      unfold ftl
      rw [List.filter_cons_of_neg hs]
    have h1 : ¬ q.i = 1 := fun e => hs (by unfold sel; rw [e]; simp)
    rw [if_neg h1]
    exact ⟨hit, by rw [itA_fs, hf, hft]⟩
theorem Vw.fold {x : Bool} : ∀ (l : List Sn) {A : AN} {v : Vs}, Vw A v → A.fs = ftl x true l → Vw (l.foldl (snA x true) A) (l.foldl snV v)
  | [], _, _, h, _ => h
  | q :: r, A, v, h, hf => by
    obtain ⟨h1, h2⟩ := h.sn hf
    exact Vw.fold r h1 h2
/-! ### how much is under way, and how late -/
def cnt (v : Vs) : Nat := v.q.length + v.pd.length
def Dl (m : Nat) (v : Vs) : Prop := ∀ p ∈ v.pd, v.now < p.1 ∧ p.1 ≤ v.now + m
theorem comeQ_le (q : List (List UInt8)) (d : List UInt8) : (comeQ q d).length ≤ q.length + 1 := by
  unfold comeQ
  split <;> simp
theorem comeQ_head {q : List (List UInt8)} {m : List UInt8} (h : q.head? = some m) (d : List UInt8) : (comeQ q d).head? = some m := by
  unfold comeQ
  cases q with
  | nil => cases h
  | cons x r => split <;> simpa using h
theorem foldQ_le : ∀ (ps : List (Nat × Nat × List UInt8)) (q : List (List UInt8)), (ps.foldl (fun q p => comeQ q p.2.2) q).length ≤ q.length + ps.length
  | [], _ => Nat.le_refl _
  | p :: r, q => by
    have h1 := foldQ_le r (comeQ q p.2.2)
    have h2 := comeQ_le q p.2.2
    rw [List.foldl_cons, List.length_cons]
    omega
theorem foldQ_head : ∀ (ps : List (Nat × Nat × List UInt8)) {q : List (List UInt8)} {m : List UInt8}, q.head? = some m → (ps.foldl (fun q p => comeQ q p.2.2) q).head? = some m
  | [], _, _, h => h
  | p :: r, _, _, h => foldQ_head r (comeQ_head h p.2.2)
theorem filter_both {α : Type} (p : α → Bool) (l : List α) : (l.filter p).length + (l.filter fun x => !p x).length = l.length := by
  induction l with
  | nil => rfl
  | cons x r ih =>
    by_cases h : p x = true
    · rw [List.filter_cons_of_pos h, List.filter_cons_of_neg (by simp [h]), List.length_cons, List.length_cons]
      omega
    · rw [List.filter_cons_of_neg h, List.filter_cons_of_pos (by simp [h]), List.length_cons, List.length_cons]
      omega
theorem cnt_tick (v : Vs) : cnt (tickV v) ≤ cnt v := by
  have h1 := foldQ_le (v.pd.filter fun p => p.1 == v.now + 1) v.q
  have h2 := filter_both (fun p : Nat × Nat × List UInt8 => p.1 == v.now + 1) v.pd
  have h3 : (v.pd.filter fun p => p.1 != v.now + 1).length = (v.pd.filter fun x => !(x.1 == v.now + 1)).length := rfl
  unfold cnt tickV
  dsimp only
  omega
theorem Dl.tick {m : Nat} {v : Vs} (h : Dl (m + 1) v) : Dl m (tickV v) := fun p hp => by
  obtain ⟨h1, h2⟩ := List.mem_filter.1 (show p ∈ v.pd.filter fun p => p.1 != v.now + 1 from hp)
  have h3 := h p h1
  have h4 : p.1 ≠ v.now + 1 := by simpa using h2
  show v.now + 1 < p.1 ∧ p.1 ≤ v.now + 1 + m
  omega
theorem Dl.more {m k : Nat} {v : Vs} (h : Dl m v) (hk : m ≤ k) : Dl k v := fun p hp => by
  have := h p hp
  omega
theorem Dl.it {m : Nat} {v : Vs} (h : Dl m v) : ∀ n, Dl m (itV n v)
  | 0 => h
  | n + 1 => ((h.it n).more (Nat.le_succ m)).tick
theorem cnt_it (v : Vs) : ∀ n, cnt (itV n v) ≤ cnt v
  | 0 => Nat.le_refl _
  | n + 1 => Nat.le_trans (cnt_tick _) (cnt_it v n)
theorem head_it {v : Vs} {m : List UInt8} (h : v.q.head? = some m) : ∀ n, (itV n v).q.head? = some m
  | 0 => h
  | n + 1 => foldQ_head _ (head_it h n)
theorem now_it (v : Vs) : ∀ n, (itV n v).now = v.now + n
  | 0 => rfl
  | n + 1 => by
    show (itV n v).now + 1 = _
    rw [now_it v n]
    omega
theorem cnt_post (v : Vs) (d : List UInt8) (n : Nat) : cnt (postV v d n) ≤ cnt v + 1 := by
  unfold postV
  split
  · have := comeQ_le v.q d
    unfold cnt comeV
    dsimp only
    omega
  · unfold cnt
    simp
    omega
theorem Dl.post {m : Nat} {v : Vs} (h : Dl m v) (d : List UInt8) {n : Nat} (hn : n ≤ m) : Dl m (postV v d n) := by
  unfold postV
  split
  · exact h
  · intro p hp
    rcases List.mem_append.1 (show p ∈ v.pd ++ [(v.now + n, 1, d)] from hp) with h1 | h1
    · exact h p h1
    · obtain rfl := List.mem_singleton.1 h1
      show v.now < v.now + n ∧ v.now + n ≤ v.now + m
      omega
theorem head_post {v : Vs} {m : List UInt8} (h : v.q.head? = some m) (d : List UInt8) (n : Nat) : (postV v d n).q.head? = some m := by
  unfold postV
  split
  · exact comeQ_head h d
  · exact h
theorem now_post (v : Vs) (d : List UInt8) (n : Nat) : (postV v d n).now = v.now := by
  unfold postV
  split <;> rfl
theorem send_V (P : Vs → Vs → Prop) (v : Vs) (d : List UInt8) (f : Int × Int) (h0 : P v v) (h1 : ∀ d n, (n = 0 ∨ n = f.2.toNat) → P v (postV v d n)) (h2 : P v (postV (postV v d 0) d f.2.toNat)) : P v (sendV v d f) := by
  unfold sendV
  split
  · exact h1 _ _ (.inl rfl)
  split
  · exact h0
  split
  · exact h2
  split
  · exact h1 _ _ (.inr rfl)
  split
  · exact h1 _ _ (.inl rfl)
  split
  · exact h1 _ _ (.inl rfl)
  · exact h0
theorem cnt_send (v : Vs) (d : List UInt8) (f : Int × Int) : cnt (sendV v d f) ≤ cnt v + 2 :=
  send_V (fun v u => cnt u ≤ cnt v + 2) v d f (Nat.le_add_right _ _) (fun d n _ => Nat.le_succ_of_le (cnt_post v d n)) (Nat.le_trans (cnt_post _ _ _) (Nat.succ_le_succ (cnt_post _ _ _)))
theorem Dl.send {m : Nat} {v : Vs} (h : Dl m v) (d : List UInt8) {f : Int × Int} (hf : f.2.toNat ≤ m) : Dl m (sendV v d f) :=
  send_V (fun _ u => Dl m u) v d f h (fun d n hn => h.post d (by rcases hn with rfl | rfl <;> omega)) ((h.post d (Nat.zero_le _)).post d hf)
theorem head_send {v : Vs} {m : List UInt8} (h : v.q.head? = some m) (d : List UInt8) (f : Int × Int) : (sendV v d f).q.head? = some m :=
  send_V (fun _ u => u.q.head? = some m) v d f h (fun d n _ => head_post h d n) (head_post (head_post h d 0) d _)
theorem now_send (v : Vs) (d : List UInt8) (f : Int × Int) : (sendV v d f).now = v.now :=
  send_V (fun v u => u.now = v.now) v d f rfl (fun d n _ => now_post v d n) (by rw [now_post, now_post])
theorem sn_V {v : Vs} {q : Sn} (hn : q.n < 40) {m : Nat} (hm : 40 ≤ m) (hd : Dl m v) : cnt (snV v q) ≤ cnt v + 2 ∧ Dl m (snV v q) ∧ (snV v q).now = v.now + q.g ∧ ∀ x, v.q.head? = some x → (snV v q).q.head? = some x := by
  have h1 := cnt_it v q.g
  unfold snV
  split
  · refine ⟨Nat.le_trans (cnt_send _ _ _) (by omega), (hd.it q.g).send q.d (by dsimp only; omega), by rw [now_send, now_it], fun x hx => head_send (head_it hx q.g) _ _⟩
  · exact ⟨by omega, hd.it q.g, now_it v q.g, fun x hx => head_it hx q.g⟩
theorem fold_V : ∀ (l : List Sn) {v : Vs}, (∀ q ∈ l, q.n < 40) → Dl 50 v → cnt (l.foldl snV v) ≤ cnt v + 2 * l.length ∧ Dl 50 (l.foldl snV v) ∧ (l.foldl snV v).now = v.now + gsum l ∧ ∀ x, v.q.head? = some x → (l.foldl snV v).q.head? = some x
  | [], v, _, hd => ⟨Nat.le_refl _, hd, rfl, fun _ h => h⟩
  | q :: r, v, hn, hd => by
    obtain ⟨h1, h2, h3, h4⟩ := sn_V (hn q (by simp)) (by omega) hd
    obtain ⟨k1, k2, k3, k4⟩ := fold_V r (fun q hq => hn q (by simp [hq])) h2
    rw [List.foldl_cons, List.length_cons]
    refine ⟨by omega, k2, ?_, fun x hx => k4 x (h4 x hx)⟩
    rw [k3, h3, show gsum (q :: r) = q.g + gsum r by simp [gsum]]
    omega
theorem aw_V : ∀ (n m : Nat) {v : Vs}, Dl m v → Dl m (awV n v).2 ∧ (awV n v).2.now ≤ v.now + n ∧ (m ≤ n → cnt (awV n v).2 ≤ cnt v - 1)
  | 0, m, v, hd => by
    cases hq : v.q with
    | nil =>
      rw [awV, hq]
      refine ⟨hd, Nat.le_refl _, fun hm => ?_⟩
      have : v.pd = [] := by
        cases hp : v.pd with
        | nil => rfl
        | cons p r =>
          have := hd p (by rw [hp]; simp)
          omega
      simp [cnt, hq, this]
    | cons d r =>
      rw [awV, hq]
      refine ⟨hd, Nat.le_refl _, fun _ => ?_⟩
      simp [cnt, hq]
  | n + 1, m, v, hd => by
    cases hq : v.q with
    | nil =>
      rw [awV, hq]
      dsimp only
      obtain ⟨h1, h2, _⟩ := aw_V n m (hd.more (Nat.le_succ m)).tick
      refine ⟨h1, Nat.le_trans h2 (by show v.now + 1 + n ≤ _; omega), fun hm => ?_⟩
      have hk := cnt_tick v
      cases m with
      | zero =>
        obtain ⟨_, _, h3⟩ := aw_V n 0 (hd.more (Nat.le_succ 0)).tick
        have := h3 (Nat.zero_le _)
        omega
      | succ m =>
        obtain ⟨_, _, h3⟩ := aw_V n m hd.tick
        have := h3 (by omega)
        omega
    | cons d r =>
      rw [awV, hq]
      refine ⟨hd, by dsimp only; omega, fun _ => ?_⟩
      simp [cnt, hq]
theorem aw_first {v : Vs} {m : List UInt8} (h : v.q.head? = some m) (n : Nat) : (awV n v).1 = (m, 0) := by
  cases hq : v.q with
  | nil => rw [hq] at h; cases h
  | cons d r =>
    rw [hq] at h
    obtain rfl : d = m := by simpa using h
    cases n <;> rw [awV, hq]
theorem aw_none {v : Vs} (h : cnt v = 0) : (awV 0 v).1 = ([], 190) := by
  have hq : v.q = [] := List.eq_nil_of_length_eq_zero (by unfold cnt at h; omega)
  rw [awV, hq]
end Go.Proofs.Ytimmpobpfgdncaa
