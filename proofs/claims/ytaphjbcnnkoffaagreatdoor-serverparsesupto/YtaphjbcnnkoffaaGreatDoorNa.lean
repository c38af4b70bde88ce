import Derived.Test.YtaphjbcnnkoffaaGreatDoorMx
namespace Go.Proofs.YtaphjbcnnkoffaaGreatDoor
open Go.RowKit Go.Shelf TextNum ModNum
structure Ord {α : Type} (f : α → α → Int) : Prop where
  val : ∀ a b, f a b = -1 ∨ f a b = 0 ∨ f a b = 1
  anti : ∀ a b, f b a = - f a b
  tr : ∀ a b c, f a b ≤ 0 → f b c ≤ 0 → f a c ≤ 0 ∧ (f a c = 0 → f a b = 0 ∧ f b c = 0)
theorem Ord.refl {α : Type} {f : α → α → Int} (h : Ord f) (a : α) : f a a = 0 := by
  have := h.anti a a
  omega
theorem Ord.zero {α : Type} {f : α → α → Int} (h : Ord f) {a b c : α} (h1 : f a b = 0) (h2 : f b c = 0) : f a c = 0 := by
  have h3 := (h.tr a b c (by omega) (by omega)).1
  have h4 := h.anti a b
  have h5 := h.anti b c
  have h6 := (h.tr c b a (by omega) (by omega)).1
  have h7 := h.anti a c
  omega
theorem ord_N : Ord cmpN := by
  refine ⟨fun a b => ?_, fun a b => ?_, fun a b c => ?_⟩
  · unfold cmpN
    (repeat' split) <;> simp
  · unfold cmpN
    (repeat' split) <;> first | omega | rfl
  · unfold cmpN
    (repeat' split) <;> omega
theorem Ord.pull {α β : Type} {f : α → α → Int} (h : Ord f) (g : β → α) : Ord (fun a b => f (g a) (g b)) := ⟨fun _ _ => h.val _ _, fun _ _ => h.anti _ _, fun _ _ _ => h.tr _ _ _⟩
theorem Ord.lex {α : Type} {f g : α → α → Int} (hf : Ord f) (hg : Ord g) : Ord (fun a b => if f a b = 0 then g a b else f a b) := by
  refine ⟨fun a b => ?_, fun a b => ?_, fun a b c => ?_⟩
  · split
    · exact hg.val a b
    · exact hf.val a b
  · have h1 := hf.anti a b
    have h2 := hg.anti a b
    by_cases h : f a b = 0
    · rw [if_pos h, if_pos (by omega)]; exact h2
    · rw [if_neg h, if_neg (by omega)]; exact h1
  · have t1 := hf.tr a b c
    have t2 := hg.tr a b c
    have z1 := fun h1 h2 => hf.zero (a := a) (b := b) (c := c) h1 h2
    by_cases h1 : f a b = 0
    · rw [if_pos h1]
      by_cases h2 : f b c = 0
      · rw [if_pos h2, if_pos (z1 h1 h2)]
        exact t2
      · rw [if_neg h2]
        intro h3 h4
        obtain ⟨h5, h6⟩ := t1 (by omega) (by omega)
        have h7 : f a c ≠ 0 := fun h => h2 (h6 h).2
        rw [if_neg h7]
        exact ⟨h5, fun h => absurd h h7⟩
    · rw [if_neg h1]
      intro h3 h4
      have h8 : f b c ≤ 0 := by
        by_cases h2 : f b c = 0
        · omega
        · rw [if_neg h2] at h4; exact h4
      obtain ⟨h5, h6⟩ := t1 h3 h8
      have h7 : f a c ≠ 0 := fun h => h1 (h6 h).1
      rw [if_neg h7]
      exact ⟨h5, fun h => absurd h h7⟩
/-- lists, by their elements -/
def cmpX {α : Type} (f : α → α → Int) : List α → List α → Int
  | [], [] => 0
  | [], _ :: _ => -1
  | _ :: _, [] => 1
  | a :: l, b :: m => if f a b = 0 then cmpX f l m else f a b
theorem ord_X {α : Type} {f : α → α → Int} (hf : Ord f) : Ord (cmpX f) := by
  refine ⟨?_, ?_, ?_⟩
  · intro a
    induction a with
    | nil => intro b; cases b <;> simp [cmpX]
    | cons x l ih =>
      intro b
      cases b with
      | nil => simp [cmpX]
      | cons y m =>
        unfold cmpX
        split
        · exact ih m
        · exact hf.val x y
  · intro a
    induction a with
    | nil => intro b; cases b <;> simp [cmpX]
    | cons x l ih =>
      intro b
      cases b with
      | nil => simp [cmpX]
      | cons y m =>
        have h1 := hf.anti x y
        unfold cmpX
        by_cases h : f x y = 0
        · rw [if_pos h, if_pos (by omega)]; exact ih m
        · rw [if_neg h, if_neg (by omega)]; exact h1
  · intro a
    induction a with
    | nil =>
      intro b c
      cases b <;> cases c <;> simp [cmpX]
    | cons x l ih =>
      intro b c
      cases b with
      | nil => simp [cmpX]
      | cons y m =>
        cases c with
        | nil => simp [cmpX]
        | cons z n =>
          have t1 := hf.tr x y z
          have z1 := fun h1 h2 => hf.zero (a := x) (b := y) (c := z) h1 h2
          have t2 := ih m n
          unfold cmpX
          by_cases h1 : f x y = 0
          · rw [if_pos h1]
            by_cases h2 : f y z = 0
            · rw [if_pos h2, if_pos (z1 h1 h2)]
              exact t2
            · rw [if_neg h2]
              intro h3 h4
              obtain ⟨h5, h6⟩ := t1 (by omega) (by omega)
              have h7 : f x z ≠ 0 := fun h => h2 (h6 h).2
              rw [if_neg h7]
              exact ⟨h5, fun h => absurd h h7⟩
          · rw [if_neg h1]
            intro h3 h4
            have h8 : f y z ≤ 0 := by
              by_cases h2 : f y z = 0
              · omega
              · rw [if_neg h2] at h4; exact h4
            obtain ⟨h5, h6⟩ := t1 h3 h8
            have h7 : f x z ≠ 0 := fun h => h1 (h6 h).1
            rw [if_neg h7]
            exact ⟨h5, fun h => absurd h h7⟩
theorem cmpL_X (f : List UInt8 → List UInt8 → Int) : ∀ a b, cmpL f a b = cmpX f a b
  | [], [] => rfl
  | [], _ :: _ => rfl
  | _ :: _, [] => rfl
  | a :: l, b :: m => by unfold cmpL cmpX; rw [cmpL_X f l m]
theorem cmpB_X : ∀ a b : List UInt8, cmpB a b = cmpX (fun x y : UInt8 => cmpN x.toNat y.toNat) a b
  | [], [] => rfl
  | [], _ :: _ => rfl
  | _ :: _, [] => rfl
  | a :: l, b :: m => by
    unfold cmpB cmpX
    rw [cmpB_X l m]
    unfold cmpN
    by_cases h1 : a.toNat < b.toNat
    · simp [h1]
    · by_cases h2 : b.toNat < a.toNat
      · simp [h1, h2]
      · simp [h1, h2]
theorem ord_B : Ord cmpB := by
  rw [show cmpB = cmpX (fun x y : UInt8 => cmpN x.toNat y.toNat) from funext fun a => funext fun b => cmpB_X a b]
  exact ord_X (ord_N.pull UInt8.toNat)
theorem ord_U : Ord cmpU := (ord_N.pull List.length).lex ord_B
theorem ord_W : Ord cmpW := by
  have hU := ord_U
  have hB := ord_B
  refine ⟨fun a b => ?_, fun a b => ?_, fun a b c => ?_⟩
  · have h1 := hU.val a b
    have h2 := hB.val a b
    unfold cmpW
    cases isNum a <;> cases isNum b <;> simp <;> assumption
  · have h1 := hU.anti a b
    have h2 := hB.anti a b
    unfold cmpW
    cases isNum a <;> cases isNum b <;> simp <;> assumption
  · have h1 := hU.tr a b c
    have h2 := hB.tr a b c
    unfold cmpW
    cases isNum a <;> cases isNum b <;> cases isNum c <;> simp <;> first | assumption | (intros; omega) | skip
    all_goals omega
theorem ord_Ws : Ord cmpWs := by
  have hL : Ord (cmpL cmpW) := by
    rw [show cmpL cmpW = cmpX cmpW from funext fun a => funext fun b => cmpL_X _ a b]
    exact ord_X ord_W
  have key : ∀ a b, cmpWs a b = if a = [] then (if b = [] then 0 else 1) else (if b = [] then -1 else cmpL cmpW a b) := by
    intro a b
    unfold cmpWs cmpN
    cases a <;> cases b <;> simp
  refine ⟨fun a b => ?_, fun a b => ?_, fun a b c => ?_⟩
  · have h1 := hL.val a b
    rw [key]
    (repeat' split) <;> first | assumption | simp
  · have h1 := hL.anti a b
    rw [key, key]
    (repeat' split) <;> first | assumption | simp_all
  · have h1 := hL.tr a b c
    rw [key, key, key]
    (repeat' split) <;> first | assumption | (intros; omega) | skip
    all_goals simp_all
theorem cmp3_eq (m0 m1 m2 n0 n1 n2 : List UInt8) : cmp3 [m0, m1, m2] [n0, n1, n2] = if cmpU m0 n0 = 0 then (if cmpU m1 n1 = 0 then cmpU m2 n2 else cmpU m1 n1) else cmpU m0 n0 := by
  simp only [cmp3]
  by_cases h : cmpU m2 n2 = 0
  · rw [if_pos h, h]
  · rw [if_neg h]
/-- numbers and words -/
def v4 (v : Prt) : List UInt8 × List UInt8 × List UInt8 × List (List UInt8) := (v.n.getD 0 [], v.n.getD 1 [], v.n.getD 2 [], v.ws)
def cmp4 (x y : List UInt8 × List UInt8 × List UInt8 × List (List UInt8)) : Int :=
  if (if cmpU x.1 y.1 = 0 then (if cmpU x.2.1 y.2.1 = 0 then cmpU x.2.2.1 y.2.2.1 else cmpU x.2.1 y.2.1) else cmpU x.1 y.1) = 0 then cmpWs x.2.2.2 y.2.2.2 else (if cmpU x.1 y.1 = 0 then (if cmpU x.2.1 y.2.1 = 0 then cmpU x.2.2.1 y.2.2.1 else cmpU x.2.1 y.2.1) else cmpU x.1 y.1)
theorem ord_4 : Ord cmp4 := ((ord_U.pull (fun x : List UInt8 × List UInt8 × List UInt8 × List (List UInt8) => x.1)).lex ((ord_U.pull (fun x : List UInt8 × List UInt8 × List UInt8 × List (List UInt8) => x.2.1)).lex (ord_U.pull (fun x : List UInt8 × List UInt8 × List UInt8 × List (List UInt8) => x.2.2.1)))).lex (ord_Ws.pull (fun x : List UInt8 × List UInt8 × List UInt8 × List (List UInt8) => x.2.2.2))
theorem vp_n (l : List UInt8) : ∃ n0 n1 n2, (vp l).n = [n0, n1, n2] := by
  unfold vp
  cases h : ver l with
  | none => exact ⟨[], [], [], rfl⟩
  | some q =>
    unfold ver at h
    split at h
    · cases h
    · split at h
      · rename_i h3
        injection h with h
        subst h
        simp only [Option.getD_some]
        have hl := h3.1
        match (vprt l).n, hl with
        | [a, b, c], _ => exact ⟨a, b, c, rfl⟩
      · cases h
theorem cmpV_4 (a b : List UInt8) : cmpV a b = cmp4 (v4 (vp a)) (v4 (vp b)) := by
  obtain ⟨m0, m1, m2, h1⟩ := vp_n a
  obtain ⟨n0, n1, n2, h2⟩ := vp_n b
  show cmpP (vp a) (vp b) = _
  unfold cmpP v4 cmp4
  rw [h1, h2, cmp3_eq]
  rfl
theorem ord_V : Ord cmpV := by
  rw [show cmpV = fun a b => cmp4 (v4 (vp a)) (v4 (vp b)) from funext fun a => funext fun b => cmpV_4 a b]
  exact ord_4.pull (fun l => v4 (vp l))
/-- a version's first number has a digit -/
theorem ver_num {l : List UInt8} {q : Prt} (h : ver l = some q) : q.n.length = 3 ∧ vok q = true := by
  unfold ver at h
  split at h
  · cases h
  · split at h
    · rename_i h3
      injection h with h
      subst h
      exact h3
    · cases h
theorem cmpV_no {a b : List UInt8} {q : Prt} (ha : ver a = none) (hb : ver b = some q) : cmpV a b = -1 := by
  obtain ⟨n0, n1, n2, h2⟩ := vp_n b
  have hvb : vp b = q := by unfold vp; rw [hb]; rfl
  have hva : vp a = zp := by unfold vp; rw [ha]; rfl
  rw [hvb] at h2
  have hk := (ver_num hb).2
  unfold vok at hk
  rw [h2] at hk
  simp only [Bool.and_eq_true, List.all_cons] at hk
  have hn0 := hk.1.1.1
  have hlen : 0 < n0.length := by
    unfold isNum at hn0
    simp only [Bool.and_eq_true, Bool.or_eq_true, beq_iff_eq, decide_eq_true_eq] at hn0
    omega
  have hu : cmpU [] n0 = -1 := by
    unfold cmpU cmpN
    simp [hlen]
  show cmpP (vp a) (vp b) = -1
  unfold cmpP
  rw [hva, hvb, h2]
  rw [show zp.n = [[], [], []] from rfl, cmp3_eq, hu]
  rfl
theorem cmpV_nn {a b : List UInt8} (ha : ver a = none) (hb : ver b = none) : cmpV a b = 0 := by
  have h1 : vp a = zp := by unfold vp; rw [ha]; rfl
  have h2 : vp b = zp := by unfold vp; rw [hb]; rfl
  show cmpP (vp a) (vp b) = 0
  rw [h1, h2]
  decide
end Go.Proofs.YtaphjbcnnkoffaaGreatDoor
