/-! module paths and versions in plain lists: no model in it -/
namespace ModNum

/-- the kind of a letter: 1 small, 2 capital, 4 digit, 8 hyphen, 16 dot, 32 other, 64 slash -/
def kd (n : Nat) : Nat := if 97 ≤ n ∧ n ≤ 122 then 1 else if 65 ≤ n ∧ n ≤ 90 then 2 else if 48 ≤ n ∧ n ≤ 57 then 4 else if n = 45 then 8 else if n = 46 then 16 else if n = 95 then 32 else if n = 126 then 32 else if n = 47 then 64 else 0
theorem kd_high {n : Nat} (h : 128 ≤ n) : kd n = 0 := by
  unfold kd
  repeat' split
  all_goals first | omega | rfl
theorem kd_lt (n : Nat) : kd n < 128 := by
  unfold kd
  repeat' split
  all_goals decide
/-- all letters of these kinds -/
def al (k : Nat) (l : List UInt8) : Bool := l.all fun c => decide (kd c.toNat &&& k ≠ 0)
theorem al_nil (k : Nat) : al k [] = true := rfl
theorem al_cons (k : Nat) (c : UInt8) (l : List UInt8) : al k (c :: l) = (decide (kd c.toNat &&& k ≠ 0) && al k l) := rfl
theorem al_append (k : Nat) (a b : List UInt8) : al k (a ++ b) = (al k a && al k b) := by simp [al]
theorem al_mem {k : Nat} {l : List UInt8} (h : al k l = true) {c : UInt8} (hc : c ∈ l) : kd c.toNat &&& k ≠ 0 := by
  have := List.all_eq_true.1 h c hc
  simpa using this
theorem al_of {k : Nat} {l : List UInt8} (h : ∀ c ∈ l, kd c.toNat &&& k ≠ 0) : al k l = true := List.all_eq_true.2 fun c hc => by simpa using h c hc
theorem al_ascii {k : Nat} {l : List UInt8} (h : al k l = true) : ∀ c ∈ l, c.toNat < 128 := by
  intro c hc
  have h1 := al_mem h hc
  rcases Nat.lt_or_ge c.toNat 128 with h2 | h2
  · exact h2
  · rw [kd_high h2] at h1; simp at h1
/-- a number in its one form -/
def isNum (l : List UInt8) : Bool := al 4 l && (l.length == 1 || (decide (1 < l.length) && l.head? != some 48))
def isLow (l : List UInt8) : Bool := l == [48] || l == [49]
def isWrd (l : List UInt8) : Bool := if al 4 l then isNum l else al 15 l

/-- cut at each c -/
def pcs (c : UInt8) : List UInt8 → List (List UInt8)
  | [] => [[]]
  | x :: r => if x = c then [] :: pcs c r else match pcs c r with
    | [] => [[x]]
    | p :: ps => (x :: p) :: ps
theorem pcs_ne (c : UInt8) (l : List UInt8) : pcs c l ≠ [] := by
  cases l with
  | nil => simp [pcs]
  | cons x r =>
    unfold pcs
    split
    · simp
    · split <;> simp
theorem pcs_miss {c : UInt8} : ∀ {l : List UInt8}, c ∉ l → pcs c l = [l]
  | [], _ => rfl
  | x :: r, h => by
    have h1 : ¬ x = c := fun e => h (by simp [e])
    rw [pcs, if_neg h1, pcs_miss (fun e => h (by simp [e]))]
theorem pcs_hit {c : UInt8} : ∀ {a b : List UInt8}, c ∉ a → pcs c (a ++ c :: b) = a :: pcs c b
  | [], b, _ => by simp [pcs]
  | x :: a, b, h => by
    have h1 : ¬ x = c := fun e => h (by simp [e])
    rw [List.cons_append, pcs, if_neg h1, pcs_hit (fun e => h (by simp [e]))]
/-- put together again -/
def jn (c : UInt8) : List (List UInt8) → List UInt8
  | [] => []
  | [a] => a
  | a :: b :: r => a ++ c :: jn c (b :: r)
theorem jn_cons {c : UInt8} {a : List UInt8} {r : List (List UInt8)} (h : r ≠ []) : jn c (a :: r) = a ++ c :: jn c r := by
  cases r with
  | nil => exact absurd rfl h
  | cons b r => rfl
theorem jn_cons1 (c x : UInt8) (p : List UInt8) (ps : List (List UInt8)) : jn c ((x :: p) :: ps) = x :: jn c (p :: ps) := by
  cases ps <;> simp [jn]
theorem jn_pcs (c : UInt8) : ∀ l : List UInt8, jn c (pcs c l) = l
  | [] => rfl
  | x :: r => by
    have ih := jn_pcs c r
    have hn := pcs_ne c r
    unfold pcs
    split
    · rename_i e
      rw [jn_cons hn, ih, e]; rfl
    · split
      · rename_i e; exact absurd e hn
      · rename_i p ps e
        rw [e] at ih
        rw [jn_cons1, ih]
theorem pcs_no {c : UInt8} : ∀ {l p : List UInt8}, p ∈ pcs c l → c ∉ p
  | [], p, h => by simp [pcs] at h; subst h; simp
  | x :: r, p, h => by
    unfold pcs at h
    split at h
    · rcases List.mem_cons.1 h with rfl | h
      · simp
      · exact pcs_no h
    · rename_i hx
      split at h
      · rename_i e; exact absurd e (pcs_ne c r)
      · rename_i q qs e
        rcases List.mem_cons.1 h with rfl | h
        · intro hc
          rcases List.mem_cons.1 hc with e2 | hc
          · exact hx e2.symm
          · exact pcs_no (l := r) (by rw [e]; simp) hc
        · exact pcs_no (l := r) (by rw [e]; simp [h])
theorem pcs_jn {c : UInt8} : ∀ {ps : List (List UInt8)}, ps ≠ [] → (∀ p ∈ ps, c ∉ p) → pcs c (jn c ps) = ps
  | [a], _, h => pcs_miss (h a (by simp))
  | a :: b :: r, _, h => by
    rw [jn_cons (by simp), pcs_hit (h a (by simp)), pcs_jn (by simp) (fun p hp => h p (by simp [hp]))]
theorem pcs_mem {c : UInt8} {l p : List UInt8} (h : p ∈ pcs c l) : ∀ x ∈ p, x ∈ l := by
  induction l generalizing p with
  | nil => simp [pcs] at h; subst h; simp
  | cons y r ih =>
    intro x hx
    unfold pcs at h
    split at h
    · rcases List.mem_cons.1 h with rfl | h
      · cases hx
      · exact List.mem_cons_of_mem _ (ih h x hx)
    · split at h
      · rename_i e; exact absurd e (pcs_ne c r)
      · rename_i q qs e
        rcases List.mem_cons.1 h with rfl | h
        · rcases List.mem_cons.1 hx with rfl | hx
          · simp
          · exact List.mem_cons_of_mem _ (ih (p := q) (by rw [e]; simp) x hx)
        · exact List.mem_cons_of_mem _ (ih (p := p) (by rw [e]; simp [h]) x hx)
/-- ahead of the first c, and behind it -/
def ahd (c : UInt8) (l : List UInt8) : List UInt8 := l.takeWhile (· != c)
def bhd (c : UInt8) (l : List UInt8) : List UInt8 := (l.dropWhile (· != c)).drop 1
theorem ahd_no (c : UInt8) (l : List UInt8) : c ∉ ahd c l := by
  induction l with
  | nil => simp [ahd]
  | cons x l ih =>
    by_cases hx : x = c
    · subst hx; simp [ahd]
    · unfold ahd at ih ⊢
      simp only [List.takeWhile_cons, bne_iff_ne, ne_eq, hx, not_false_eq_true, if_true, List.mem_cons, not_or]
      exact ⟨fun e => hx e.symm, ih⟩
theorem cut_eq {c : UInt8} {l : List UInt8} (h : c ∈ l) : l = ahd c l ++ c :: bhd c l := by
  induction l with
  | nil => cases h
  | cons x l ih =>
    by_cases hx : x = c
    · subst hx; simp [ahd, bhd]
    · have h2 : c ∈ l := by
        rcases List.mem_cons.1 h with e | h
        · exact absurd e.symm hx
        · exact h
      have e1 : ahd c (x :: l) = x :: ahd c l := by simp [ahd, hx]
      have e2 : bhd c (x :: l) = bhd c l := by simp [bhd, hx]
      rw [e1, e2, List.cons_append, ← ih h2]
theorem ahd_app {c : UInt8} {a : List UInt8} (h : c ∉ a) (b : List UInt8) : ahd c (a ++ c :: b) = a := by
  induction a with
  | nil => simp [ahd]
  | cons x a ih =>
    have hx : x ≠ c := fun e => h (by simp [e])
    have := ih (fun e => h (by simp [e]))
    simp only [ahd] at this ⊢
    simp [hx, this]
theorem bhd_app {c : UInt8} {a : List UInt8} (h : c ∉ a) (b : List UInt8) : bhd c (a ++ c :: b) = b := by
  induction a with
  | nil => simp [bhd]
  | cons x a ih =>
    have hx : x ≠ c := fun e => h (by simp [e])
    have := ih (fun e => h (by simp [e]))
    simp only [bhd] at this ⊢
    simp [hx, this]
theorem ahd_miss {c : UInt8} : ∀ {l : List UInt8}, c ∉ l → ahd c l = l
  | [], _ => rfl
  | x :: r, h => by
    have h1 : ¬ x = c := fun e => h (by simp [e])
    have := ahd_miss (l := r) (c := c) (fun e => h (by simp [e]))
    simp only [ahd] at this ⊢
    simp [h1, this]
theorem bhd_miss {c : UInt8} : ∀ {l : List UInt8}, c ∉ l → bhd c l = []
  | [], _ => rfl
  | x :: r, h => by
    have h1 : ¬ x = c := fun e => h (by simp [e])
    have := bhd_miss (l := r) (c := c) (fun e => h (by simp [e]))
    simp only [bhd] at this ⊢
    simp [h1, this]
theorem ahd_pcs (c : UInt8) (l : List UInt8) : (pcs c l).head? = some (ahd c l) := by
  by_cases h : c ∈ l
  · rw [cut_eq h, pcs_hit (ahd_no c l), ahd_app (ahd_no c l)]; rfl
  · rw [pcs_miss h, ahd_miss h]; rfl

/-- the digits at the end -/
def dgs (l : List UInt8) : List UInt8 := (l.reverse.takeWhile fun c => decide (kd c.toNat = 4)).reverse
def ahe (l : List UInt8) : List UInt8 := l.take (l.length - (dgs l).length)
def sfx (p l : List UInt8) : Bool := p.isSuffixOf l
def dbh (l mark : List UInt8) : Bool := !(dgs l).isEmpty && sfx mark (ahe l)
def pfx (p l : List UInt8) : Bool := p.isPrefixOf l
/-- the first element -/
def hst (e : List UInt8) : Bool := decide (46 ∈ e) && !pfx [45] e && al 29 e
def lwr (c : UInt8) : UInt8 := if 65 ≤ c.toNat ∧ c.toNat ≤ 90 then c + 32 else c
def rsv : List (List UInt8) := [[99, 111, 110], [112, 114, 110], [97, 117, 120], [110, 117, 108], [99, 111, 109, 49], [99, 111, 109, 50], [99, 111, 109, 51], [99, 111, 109, 52], [99, 111, 109, 53], [99, 111, 109, 54], [99, 111, 109, 55], [99, 111, 109, 56], [99, 111, 109, 57], [108, 112, 116, 49], [108, 112, 116, 50], [108, 112, 116, 51], [108, 112, 116, 52], [108, 112, 116, 53], [108, 112, 116, 54], [108, 112, 116, 55], [108, 112, 116, 56], [108, 112, 116, 57]]
/-- an element -/
def elm (e : List UInt8) : Bool := !e.isEmpty && !pfx [46] e && !sfx [46] e && !decide ((ahd 46 e).map lwr ∈ rsv) && !dbh (ahd 46 e) [126]
def tsf (p l : List UInt8) : List UInt8 := if sfx p l then l.take (l.length - p.length) else l
def GOPKG : List UInt8 := [103, 111, 112, 107, 103, 46, 105, 110]
def UNST : List UInt8 := [45, 117, 110, 115, 116, 97, 98, 108, 101]
def INC : List UInt8 := [43, 105, 110, 99, 111, 109, 112, 97, 116, 105, 98, 108, 101]
/-- the major that the elements tell, none: they may not be -/
def mel (es : List (List UInt8)) : Option (List UInt8) :=
  let last := es.getLastD []
  if es.headD [] = GOPKG then (if dbh (tsf UNST last) [46, 118] && isNum (dgs (tsf UNST last)) then some (dgs (tsf UNST last)) else none)
  else if es.length = 1 ∨ last.head? ≠ some 118 ∨ last.drop 1 = [] ∨ al 20 (last.drop 1) = false then some []
  else if isNum (last.drop 1) && !isLow (last.drop 1) then some (last.drop 1) else none
/-- the major of a path -/
def maj (p : List UInt8) : Option (List UInt8) :=
  if 255 < p.length ∨ al 127 p = false then none
  else if hst ((pcs 47 p).headD []) && (pcs 47 p).all elm then mel (pcs 47 p) else none
/-- a version's parts -/
structure Prt where
  n : List (List UInt8)
  ws : List (List UInt8)
  inc : Bool
def vok (v : Prt) : Bool := v.n.all isNum && v.ws.all isWrd && !(v.inc && isLow (v.n.headD []))
def vcore (l : List UInt8) : List UInt8 := tsf INC (l.drop 1)
def vprt (l : List UInt8) : Prt := ⟨pcs 46 (ahd 45 (vcore l)), if 45 ∈ vcore l then pcs 46 (bhd 45 (vcore l)) else [], sfx INC (l.drop 1)⟩
def ver (l : List UInt8) : Option Prt :=
  if l.head? ≠ some 118 ∨ 128 < l.length then none
  else if (vprt l).n.length = 3 ∧ vok (vprt l) = true then some (vprt l) else none
def zp : Prt := ⟨[[], [], []], [], false⟩
def fit (v : Prt) (m : List UInt8) : Bool := if m = [] then v.inc || isLow (v.n.headD []) else decide (v.n.headD [] = m) && !v.inc
/-- the errors of a key: 0, 110, 111 -/
def fte (p v : List UInt8) : Int := match maj p with
  | none => 110
  | some m => match ver v with
    | none => 111
    | some q => if fit q m then 0 else 111
/-- the order of lists of bytes -/
def cmpB : List UInt8 → List UInt8 → Int
  | [], [] => 0
  | [], _ :: _ => -1
  | _ :: _, [] => 1
  | a :: l, b :: m => if a.toNat < b.toNat then -1 else if b.toNat < a.toNat then 1 else cmpB l m
def cmpN (a b : Nat) : Int := if a < b then -1 else if b < a then 1 else 0
def cmpU (a b : List UInt8) : Int := if cmpN a.length b.length = 0 then cmpB a b else cmpN a.length b.length
def cmpW (a b : List UInt8) : Int := if isNum a then (if isNum b then cmpU a b else -1) else if isNum b then 1 else cmpB a b
def cmpL (f : List UInt8 → List UInt8 → Int) : List (List UInt8) → List (List UInt8) → Int
  | [], [] => 0
  | [], _ :: _ => -1
  | _ :: _, [] => 1
  | a :: l, b :: m => if f a b = 0 then cmpL f l m else f a b
def cmpWs (a b : List (List UInt8)) : Int := if a = [] ∨ b = [] then cmpN b.length a.length else cmpL cmpW a b
def cmp3 : List (List UInt8) → List (List UInt8) → Int
  | a :: l, b :: m => if cmpU a b = 0 then cmp3 l m else cmpU a b
  | _, _ => 0
def cmpP (v w : Prt) : Int := if cmp3 v.n w.n = 0 then cmpWs v.ws w.ws else cmp3 v.n w.n
def cmpV (a b : List UInt8) : Int := cmpP ((ver a).getD zp) ((ver b).getD zp)
end ModNum
