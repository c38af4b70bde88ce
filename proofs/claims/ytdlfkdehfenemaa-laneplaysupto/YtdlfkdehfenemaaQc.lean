import Derived.Test.YtdlfkdehfenemaaQb
import Derived.Laws.OwnMore
namespace Go.Proofs.Ytdlfkdehfenemaa
open Go.RowKit Go.Conc TextNum
/-! ### the calls of both sides, whatever they are asked -/
def isA (A : AN) (z : Int) : Bool := decide (0 ≤ z) && decide (z < (A.ls.length : Int))
def okT (t : Int) : Bool := decide (0 ≤ t) && decide (t ≤ 65536)
def shA (A : AN) (z : Int) : Bool := match A.ls[z.toNat]? with
  | some x => x.2
  | none => false
def sndE (A : AN) (z : Int) (d : List UInt8) : Int := if isA A z then (if shA A z then 191 else if 1048576 < d.length then 2 else 0) else 192
def sndR (A : AN) (z : Int) (d : List UInt8) : AN := if sndE A z d = 0 then SendA A z.toNat d else A
def wtE (A : AN) (z t : Int) : List UInt8 × Int := if isA A z then (if okT t then (awA t.toNat A [z.toNat]).1.2 else ([], 1)) else ([], 192)
def wtR (A : AN) (z t : Int) : AN := if isA A z then (if okT t then (awA t.toNat A [z.toNat]).2 else A) else A
def anV (A : AN) (zs : List Int) (t : Int) : Nat × List UInt8 × Int := if anE A.ls.length zs t = 0 then (awA t.toNat A (zs.map Int.toNat)).1 else (0, [], anE A.ls.length zs t)
def anR (A : AN) (zs : List Int) (t : Int) : AN := if anE A.ls.length zs t = 0 then (awA t.toNat A (zs.map Int.toNat)).2 else A
def paE (t : Int) : Int := if okT t then 0 else 1
def paR (A : AN) (t : Int) : AN := if okT t then itA t.toNat A else A
def clE (A : AN) (z : Int) : Int := if isA A z then (if shA A z then 191 else 0) else 192
def clR (A : AN) (z : Int) : AN := if clE A z = 0 then shutA A z.toNat else A
def wgV (A : AN) (z : Int) : Nat := match A.ls[z.toNat]? with
  | some x => x.1.length
  | none => 0
def wgE (A : AN) (z : Int) : Int := if isA A z then 0 else 192
theorem abs_len (S : NS) : (abs S).ls.length = S.ls.length := by unfold abs; simp
theorem isA_S (S : NS) (z : Int) : isA (abs S) z = isL S z := by
  unfold isA isL
  rw [abs_len]
theorem isA_R (R : RS) (z : Int) : isA (absR R) z = isR R z := by
  unfold isA isR
  rw [absR_len]
theorem isL_nat' {S : NS} {z : Int} (h : isL S z = true) : ∃ (i : Nat) (l : LC), z = (i : Int) ∧ S.ls[i]? = some l := by
  unfold isL at h
  simp only [Bool.and_eq_true, decide_eq_true_eq] at h
  exact ⟨z.toNat, _, by omega, List.getElem?_eq_getElem (by omega)⟩
theorem isR_nat' {R : RS} {z : Int} (h : isR R z = true) : ∃ (i : Nat) (l : RC), z = (i : Int) ∧ R.ws[i]? = some l := by
  unfold isR at h
  simp only [Bool.and_eq_true, decide_eq_true_eq] at h
  exact ⟨z.toNat, _, by omega, List.getElem?_eq_getElem (by omega)⟩
theorem shA_S {S : NS} {i : Nat} {l : LC} (hl : S.ls[i]? = some l) : shA (abs S) (i : Int) = l.sh := by
  unfold shA
  rw [Int.toNat_natCast, show (abs S).ls[i]? = (S.ls.map absL)[i]? from rfl, List.getElem?_map, hl]
  rfl
theorem shA_R {R : RS} {i : Nat} {l : RC} (hl : R.ws[i]? = some l) : shA (absR R) (i : Int) = l.sh := by
  unfold shA
  rw [Int.toNat_natCast, absR_ls hl]
/-! the program's -/
theorem PSend (w : World) (S : NS) (z : Int) (v : Value) (d : List UInt8) (h : NOk w S) (k : SOk S) (hd : Sb w v d) (hv : ∀ g, v.ownBlock = some g → ¬ own S g) (hnow : S.now ≤ 2305843009213693952) (hmn : S.mn ≤ 549755813888) :
    Calls Try.prog 18 #[.pointer (some ⟨S.nb, 0, none⟩), .int .i64 z, v] w fun e w' => e = .returned (.int .i64 (sndE (abs S) z d)) ∧ ∃ S', Stp w.heap.size 1 w w' S S' (sndR (abs S) z d) := by
  unfold sndR sndE
  rw [isA_S]
  by_cases hz : isL S z = true
  · obtain ⟨i, l, rfl, hl⟩ := isL_nat' hz
    rw [if_pos hz, shA_S hl]
    by_cases hs : l.sh = true
    · rw [if_pos hs]
      refine (Send_shut w S i l v h hl hs).mono ?_
      rintro e w' ⟨rfl, rfl⟩
      exact ⟨rfl, S, by rw [if_neg (by decide)]; exact (Stp.refl h k).more (Nat.zero_le _)⟩
    · have hs' : l.sh = false := by simpa using hs
      rw [if_neg hs]
      by_cases hlen : 1048576 < d.length
      · rw [if_pos hlen]
        obtain ⟨a, c, rfl, _⟩ := id hd
        refine (Send_long w S i l a _ c h hl hs' hlen).mono ?_
        rintro e w' ⟨rfl, rfl⟩
        exact ⟨rfl, S, by rw [if_neg (by decide)]; exact (Stp.refl h k).more (Nat.zero_le _)⟩
      · rw [if_neg hlen]
        refine (Send_yes w S i l v d h k hl hs' hd (by omega) hv hnow hmn).mono ?_
        rintro e w' ⟨rfl, S', h1, _⟩
        exact ⟨rfl, S', by rw [if_pos rfl, Int.toNat_natCast]; exact h1⟩
  · have hz' : isL S z = false := by simpa using hz
    rw [if_neg hz]
    refine (Send_no w S z v h hz').mono ?_
    rintro e w' ⟨rfl, rfl⟩
    exact ⟨rfl, S, by rw [if_neg (by decide)]; exact (Stp.refl h k).more (Nat.zero_le _)⟩
theorem PWait (w : World) (S : NS) (z t : Int) (h : NOk w S) (k : SOk S) (hnow : S.now ≤ 2305843009213693952) (hbd : S.mn ≤ 1099511627776) :
    Calls Try.prog 19 #[.pointer (some ⟨S.nb, 0, none⟩), .int .i64 z, .int .i64 t] w fun e w' => ∃ mv S', e = .returned (.tuple #[mv, .int .i64 (wtE (abs S) z t).2]) ∧ Ow w' 0 mv (wtE (abs S) z t).1 ∧ Stp w.heap.size 1 w w' S S' (wtR (abs S) z t) ∧ Free w S S' mv := by
  unfold wtE wtR
  rw [isA_S]
  by_cases hz : isL S z = true
  · obtain ⟨i, l, rfl, hl⟩ := isL_nat' hz
    rw [if_pos hz, if_pos hz]
    by_cases ht : okT t = true
    · rw [if_pos ht, if_pos ht, Int.toNat_natCast]
      unfold okT at ht
      simp only [Bool.and_eq_true, decide_eq_true_eq] at ht
      obtain ⟨n, rfl⟩ : ∃ n : Nat, t = (n : Int) := ⟨t.toNat, by omega⟩
      rw [Int.toNat_natCast]
      refine (Wait_yes w S i n l h k hl (by omega) hnow hbd).mono ?_
      rintro e w' ⟨mv, rfl, h1, S', h2, _, h3⟩
      exact ⟨mv, S', rfl, h1, h2.more (Nat.zero_le _), h3⟩
    · rw [if_neg ht, if_neg ht]
      refine (Wait_arg w S i l t h hl (by unfold okT at ht; simpa using ht)).mono ?_
      rintro e w' ⟨rfl, rfl⟩
      exact ⟨_, S, rfl, World.ownsRow_nil _ _ _ _, (Stp.refl h k).more (Nat.zero_le _), Free.nil _ _ _⟩
  · have hz' : isL S z = false := by simpa using hz
    rw [if_neg hz, if_neg hz]
    refine (Wait_no w S z t h hz').mono ?_
    rintro e w' ⟨rfl, rfl⟩
    exact ⟨_, S, rfl, World.ownsRow_nil _ _ _ _, (Stp.refl h k).more (Nat.zero_le _), Free.nil _ _ _⟩
theorem map_toNat (is : List Nat) : (is.map fun (i : Nat) => (i : Int)).map Int.toNat = is := by
  rw [List.map_map]
  have : (Int.toNat ∘ fun (i : Nat) => (i : Int)) = id := by
    funext i
    exact Int.toNat_natCast i
  rw [this, List.map_id]
theorem PAny (w : World) (S : NS) (v : Value) (zs : List Int) (t : Int) (h : NOk w S) (k : SOk S) (hI : IL w v zs) (hv : ∀ g, v.ownBlock = some g → ¬ own S g ∧ g < w.heap.size) (hnow : S.now ≤ 2305843009213693952) (hbd : S.mn ≤ 1099511627776) :
    Calls Try.prog 20 #[.pointer (some ⟨S.nb, 0, none⟩), v, .int .i64 t] w fun e w' => ∃ mv S', e = .returned (.tuple #[.int .i64 ((anV (abs S) zs t).1 : Int), mv, .int .i64 (anV (abs S) zs t).2.2]) ∧ Ow w' 0 mv (anV (abs S) zs t).2.1 ∧ Stp w.heap.size 1 w w' S S' (anR (abs S) zs t) ∧ Free w S S' mv := by
  unfold anV anR
  rw [abs_len]
  by_cases he : anE S.ls.length zs t = 0
  · rw [if_pos he, if_pos he]
    obtain ⟨o1, o2, o3, o4, o5, is, rfl, o7⟩ := anE_ok he
    obtain ⟨m, rfl⟩ : ∃ m : Nat, t = (m : Int) := ⟨t.toNat, by omega⟩
    rw [Int.toNat_natCast, map_toNat]
    have hne : is ≠ [] := fun e => o2 (by rw [e]; rfl)
    obtain ⟨b, o, c, e1, e2, e3⟩ := hI.lnr hne
    have hL : Lok w S v is := ⟨⟨⟨b, o, c, e1, e2, e3⟩, hne, o7, by rw [List.length_map] at o1; exact o1⟩, nodup_map o3⟩
    refine (Any_yes w S v is m h k hL hv (by omega) hnow hbd).mono ?_
    rintro e w' ⟨mv, S', rfl, h1, h2, _, h3⟩
    exact ⟨mv, S', rfl, h1, h2.more (Nat.zero_le _), h3⟩
  · rw [if_neg he, if_neg he]
    refine (Any_err w S v zs t h k hI he).mono ?_
    rintro e w' ⟨rfl, u⟩
    exact ⟨_, S, rfl, World.ownsRow_nil _ _ _ _, (Stp.up h k u).more (Nat.zero_le _), Free.nil _ _ _⟩
theorem PPass (w : World) (S : NS) (t : Int) (h : NOk w S) (k : SOk S) (hnow : S.now ≤ 2305843009213693952) (hbd : S.mn ≤ 1099511627776) :
    Calls Try.prog 41 #[.pointer (some ⟨S.nb, 0, none⟩), .int .i64 t] w fun e w' => e = .returned (.int .i64 (paE t)) ∧ ∃ S', Stp w.heap.size 1 w w' S S' (paR (abs S) t) := by
  unfold paE paR
  by_cases ht : okT t = true
  · rw [if_pos ht, if_pos ht]
    unfold okT at ht
    simp only [Bool.and_eq_true, decide_eq_true_eq] at ht
    obtain ⟨n, rfl⟩ : ∃ n : Nat, t = (n : Int) := ⟨t.toNat, by omega⟩
    rw [Int.toNat_natCast]
    refine (Pass_yes w S n h k (by omega) hnow hbd).mono ?_
    rintro e w' ⟨rfl, S', h1, _⟩
    exact ⟨rfl, S', h1.more (Nat.zero_le _)⟩
  · rw [if_neg ht, if_neg ht]
    refine (Pass_no w S t (by unfold okT at ht; simpa using ht)).mono ?_
    rintro e w' ⟨rfl, rfl⟩
    exact ⟨rfl, S, (Stp.refl h k).more (Nat.zero_le _)⟩
theorem PClose (w : World) (S : NS) (z : Int) (h : NOk w S) (k : SOk S) :
    Calls Try.prog 23 #[.pointer (some ⟨S.nb, 0, none⟩), .int .i64 z] w fun e w' => e = .returned (.int .i64 (clE (abs S) z)) ∧ ∃ S', Stp w.heap.size 1 w w' S S' (clR (abs S) z) := by
  unfold clR clE
  rw [isA_S]
  by_cases hz : isL S z = true
  · obtain ⟨i, l, rfl, hl⟩ := isL_nat' hz
    rw [if_pos hz, shA_S hl]
    by_cases hs : l.sh = true
    · rw [if_pos hs]
      refine (Close_shut w S i l h hl hs).mono ?_
      rintro e w' ⟨rfl, rfl⟩
      exact ⟨rfl, S, by rw [if_neg (by decide)]; exact (Stp.refl h k).more (Nat.zero_le _)⟩
    · have hs' : l.sh = false := by simpa using hs
      rw [if_neg hs]
      refine (Close_yes w S i l h hl hs').mono ?_
      rintro e w' ⟨rfl, h1, h2⟩
      have hmsg : ∀ x, cm (wLs S i { l with sh := true }) x = cm S x := fun x => by
        have := cm_set (l' := { l with sh := true }) hl x
        have e : cmL ({ l with sh := true } : LC).ms x = cmL l.ms x := rfl
        omega
      refine ⟨rfl, wLs S i { l with sh := true }, ?_⟩
      rw [if_pos rfl, Int.toNat_natCast]
      refine ⟨h1, k.set hl rfl, ?_, h2, fun x hx => .inl ((own_set (l' := { l with sh := true }) hl rfl).1 hx), fun x hx => .inl ?_, rfl, Nat.le_succ _, fun hm x => by rw [hmsg]; exact hm x⟩
      · unfold abs shutA
        dsimp only
        rw [map_set_modify absL (fun x => (x.1, true)) _ _ _ _ hl rfl]
      · rcases hx with hx | ⟨y, hy, hx⟩
        · exact .inl hx
        · refine .inr ⟨y, ?_, hx⟩
          rcases msgs_set hy with h3 | h3
          · exact List.mem_append.2 (.inl (List.mem_flatMap.2 ⟨l, get_mem hl, h3⟩))
          · exact h3
  · have hz' : isL S z = false := by simpa using hz
    rw [if_neg hz]
    refine (Close_no w S z h hz').mono ?_
    rintro e w' ⟨rfl, rfl⟩
    exact ⟨rfl, S, by rw [if_neg (by decide)]; exact (Stp.refl h k).more (Nat.zero_le _)⟩
theorem PWaiting (w : World) (S : NS) (z : Int) (h : NOk w S) :
    Calls Try.prog 15 #[.pointer (some ⟨S.nb, 0, none⟩), .int .i64 z] w fun e w' => e = .returned (.tuple #[.int .i64 ((if isA (abs S) z then wgV (abs S) z else 0 : Nat) : Int), .int .i64 (wgE (abs S) z)]) ∧ w' = w := by
  unfold wgE
  rw [isA_S]
  by_cases hz : isL S z = true
  · obtain ⟨i, l, rfl, hl⟩ := isL_nat' hz
    rw [if_pos hz, if_pos hz]
    have e : wgV (abs S) (i : Int) = l.ms.length := by
      unfold wgV
      rw [Int.toNat_natCast, show (abs S).ls[i]? = (S.ls.map absL)[i]? from rfl, List.getElem?_map, hl]
      simp [absL]
    rw [e]
    exact Waiting_yes w S i l h hl
  · have hz' : isL S z = false := by simpa using hz
    rw [if_neg hz, if_neg hz]
    exact Waiting_no w S z h hz'
/-! the document's -/
theorem QSend (w : World) (R : RS) (z : Int) (v : Value) (d : List UInt8) (h : ROk w R) (k : ASo (absR R)) (hd : Sb w v d) (hv : d ≠ [] → ∀ g, v.ownBlock = some g → ¬ rown R g) (hnow : R.now ≤ 2305843009213693952) (hpd : R.pd.length + 1 ≤ 1099511627776) (hst : R.st < 1099511627776) :
    Calls Try.prog 68 #[.pointer (some ⟨R.nb, 0, none⟩), .int .i64 z, v] w fun e w' => e = .returned (.int .i64 (sndE (absR R) z d)) ∧ ∃ R', RStp w.heap.size w w' R R' (sndR (absR R) z d) ∧ R'.st ≤ R.st + 1 := by
  unfold sndR sndE
  rw [isA_R]
  by_cases hz : isR R z = true
  · obtain ⟨i, l, rfl, hl⟩ := isR_nat' hz
    rw [if_pos hz, shA_R hl]
    by_cases hs : l.sh = true
    · rw [if_pos hs]
      refine (RSend_shut w R i l v h hl hs).mono ?_
      rintro e w' ⟨rfl, rfl⟩
      exact ⟨rfl, R, by rw [if_neg (by decide)]; exact RStp.refl h, Nat.le_succ _⟩
    · have hs' : l.sh = false := by simpa using hs
      rw [if_neg hs]
      by_cases hlen : 1048576 < d.length
      · rw [if_pos hlen]
        obtain ⟨a, c, rfl, _⟩ := id hd
        refine (RSend_long w R i l a _ c h hl hs' hlen).mono ?_
        rintro e w' ⟨rfl, rfl⟩
        exact ⟨rfl, R, by rw [if_neg (by decide)]; exact RStp.refl h, Nat.le_succ _⟩
      · rw [if_neg hlen]
        refine (RSend_yes w R i l v d h k.fk hl hs' hd hv (by omega) hnow hpd hst).mono ?_
        rintro e w' ⟨rfl, R', h1, _, h2⟩
        exact ⟨rfl, R', by rw [if_pos rfl, Int.toNat_natCast]; exact h1, Nat.le_of_eq h2⟩
  · have hz' : isR R z = false := by simpa using hz
    rw [if_neg hz]
    refine (RSend_no w R z v h hz').mono ?_
    rintro e w' ⟨rfl, rfl⟩
    exact ⟨rfl, R, by rw [if_neg (by decide)]; exact RStp.refl h, Nat.le_succ _⟩
theorem QWait (w : World) (R : RS) (z t : Int) (h : ROk w R) (k : ASo (absR R)) (hnow : R.now ≤ 2305843009213693952) (hbd : R.pd.length ≤ 1099511627776) :
    Calls Try.prog 70 #[.pointer (some ⟨R.nb, 0, none⟩), .int .i64 z, .int .i64 t] w fun e w' => ∃ mv R', e = .returned (.tuple #[mv, .int .i64 (wtE (absR R) z t).2]) ∧ Ow w' 0 mv (wtE (absR R) z t).1 ∧ RStp w.heap.size w w' R R' (wtR (absR R) z t) ∧ R'.st ≤ R.st + 1 := by
  unfold wtE wtR
  rw [isA_R]
  by_cases hz : isR R z = true
  · rw [if_pos hz, if_pos hz]
    by_cases ht : okT t = true
    · obtain ⟨i, l, rfl, hl⟩ := isR_nat' hz
      rw [if_pos ht, if_pos ht, Int.toNat_natCast]
      unfold okT at ht
      simp only [Bool.and_eq_true, decide_eq_true_eq] at ht
      obtain ⟨n, rfl⟩ : ∃ n : Nat, t = (n : Int) := ⟨t.toNat, by omega⟩
      rw [Int.toNat_natCast]
      refine (RWait_yes w R i n l h k hl (by omega) hnow hbd).mono ?_
      rintro e w' ⟨mv, rfl, h1, R', h2, _, h3⟩
      exact ⟨mv, R', rfl, h1, h2, by omega⟩
    · rw [if_neg ht, if_neg ht]
      refine (RWait_arg w R z t h hz (by unfold okT at ht; simpa using ht)).mono ?_
      rintro e w' ⟨rfl, rfl⟩
      exact ⟨_, R, rfl, World.ownsRow_nil _ _ _ _, RStp.refl h, Nat.le_succ _⟩
  · have hz' : isR R z = false := by simpa using hz
    rw [if_neg hz, if_neg hz]
    refine (RWait_no w R z t h hz').mono ?_
    rintro e w' ⟨rfl, rfl⟩
    exact ⟨_, R, rfl, World.ownsRow_nil _ _ _ _, RStp.refl h, Nat.le_succ _⟩
theorem QAny (w : World) (R : RS) (v : Value) (zs : List Int) (t : Int) (h : ROk w R) (k : ASo (absR R)) (hI : IL w v zs) (hv : zs ≠ [] → ∀ g, v.ownBlock = some g → ¬ rown R g ∧ g < w.heap.size) (hnow : R.now ≤ 2305843009213693952) (hbd : R.pd.length ≤ 1099511627776) :
    Calls Try.prog 72 #[.pointer (some ⟨R.nb, 0, none⟩), v, .int .i64 t] w fun e w' => ∃ mv R', e = .returned (.tuple #[.int .i64 ((anV (absR R) zs t).1 : Int), mv, .int .i64 (anV (absR R) zs t).2.2]) ∧ Ow w' 0 mv (anV (absR R) zs t).2.1 ∧ RStp w.heap.size w w' R R' (anR (absR R) zs t) ∧ R'.st ≤ R.st + 1 := by
  unfold anV anR
  rw [absR_len]
  refine (RAny_walk w R v zs t h k hI hv hnow hbd).mono ?_
  rintro e w' (⟨he, rfl, u⟩ | ⟨he, is, n, mv, R', rfl, rfl, rfl, h1, h2, _, h3⟩)
  · rw [if_neg he, if_neg he]
    exact ⟨_, R, rfl, World.ownsRow_nil _ _ _ _, RStp.up h u, Nat.le_succ _⟩
  · rw [if_pos he, if_pos he, Int.toNat_natCast, map_toNat]
    exact ⟨mv, R', rfl, h1, h2, by omega⟩
theorem QPass (w : World) (R : RS) (t : Int) (h : ROk w R) (k : ASo (absR R)) (hnow : R.now ≤ 2305843009213693952) (hbd : R.pd.length ≤ 1099511627776) :
    Calls Try.prog 60 #[.pointer (some ⟨R.nb, 0, none⟩), .int .i64 t] w fun e w' => e = .returned (.int .i64 (paE t)) ∧ ∃ R', RStp w.heap.size w w' R R' (paR (absR R) t) ∧ R'.st ≤ R.st + 1 := by
  unfold paE paR
  by_cases ht : okT t = true
  · rw [if_pos ht, if_pos ht]
    unfold okT at ht
    simp only [Bool.and_eq_true, decide_eq_true_eq] at ht
    obtain ⟨n, rfl⟩ : ∃ n : Nat, t = (n : Int) := ⟨t.toNat, by omega⟩
    rw [Int.toNat_natCast]
    refine (RPass_yes w R n h k (by omega) hnow hbd).mono ?_
    rintro e w' ⟨rfl, R', h1, _, h2⟩
    exact ⟨rfl, R', h1, by omega⟩
  · rw [if_neg ht, if_neg ht]
    refine (RPass_no w R t (by unfold okT at ht; simpa using ht)).mono ?_
    rintro e w' ⟨rfl, rfl⟩
    exact ⟨rfl, R, RStp.refl h, Nat.le_succ _⟩
theorem QClose (w : World) (R : RS) (z : Int) (h : ROk w R) :
    Calls Try.prog 62 #[.pointer (some ⟨R.nb, 0, none⟩), .int .i64 z] w fun e w' => e = .returned (.int .i64 (clE (absR R) z)) ∧ ∃ R', RStp w.heap.size w w' R R' (clR (absR R) z) ∧ R'.st ≤ R.st + 1 := by
  unfold clR clE
  rw [isA_R]
  by_cases hz : isR R z = true
  · obtain ⟨i, l, rfl, hl⟩ := isR_nat' hz
    rw [if_pos hz, shA_R hl]
    by_cases hs : l.sh = true
    · rw [if_pos hs]
      refine (RClose_shut w R i l h hl hs).mono ?_
      rintro e w' ⟨rfl, rfl⟩
      exact ⟨rfl, R, by rw [if_neg (by decide)]; exact RStp.refl h, Nat.le_succ _⟩
    · have hs' : l.sh = false := by simpa using hs
      rw [if_neg hs]
      refine (RClose_yes w R i l h hl hs').mono ?_
      rintro e w' ⟨rfl, R', h1, _, h2⟩
      exact ⟨rfl, R', by rw [if_pos rfl, Int.toNat_natCast]; exact h1, by omega⟩
  · have hz' : isR R z = false := by simpa using hz
    rw [if_neg hz]
    refine (RClose_no w R z h hz').mono ?_
    rintro e w' ⟨rfl, rfl⟩
    exact ⟨rfl, R, by rw [if_neg (by decide)]; exact RStp.refl h, Nat.le_succ _⟩
theorem QWaiting (w : World) (R : RS) (z : Int) (h : ROk w R) :
    Calls Try.prog 63 #[.pointer (some ⟨R.nb, 0, none⟩), .int .i64 z] w fun e w' => e = .returned (.tuple #[.int .i64 ((if isA (absR R) z then wgV (absR R) z else 0 : Nat) : Int), .int .i64 (wgE (absR R) z)]) ∧ w' = w := by
  unfold wgE
  rw [isA_R]
  by_cases hz : isR R z = true
  · obtain ⟨i, l, rfl, hl⟩ := isR_nat' hz
    rw [if_pos hz, if_pos hz]
    have e : wgV (absR R) (i : Int) = l.ms.length := by
      unfold wgV
      rw [Int.toNat_natCast, absR_ls hl]
      simp
    rw [e]
    exact RWaiting_yes w R i l h hl
  · have hz' : isR R z = false := by simpa using hz
    rw [if_neg hz, if_neg hz]
    exact RWaiting_no w R z h hz'
end Go.Proofs.Ytdlfkdehfenemaa
namespace Go.Proofs.Ytdlfkdehfenemaa
open Go.RowKit Go.Conc TextNum
/-! ### the book of what was answered -/
theorem infoHeld : (Try.prog.info? 132).map (fun i => (i.zero, i.size, i.bytes)) = some (some (.agg #[.slice none 0 0, .slice none 0 0, .int .u8 0]), 3, 56) := by kernel_rfl
/-- what is appended to may be read as it was, too -/
theorem app_both {w : World} (base : Nat) (t ty e : TypeId) (i : TypeInfo) (z : Value) (size bytes : Nat) (ht : Try.prog.underlying t = some (.slice e)) (hi : Try.prog.info? e = some i) (hz : i.zero = some z)
    (hsize : i.size = size) (hby : i.bytes = bytes) (hzs : z.cells.size = size) (hsz : 0 < size)
    (v : Value) (n : Nat) (xs : List Value) (hown : w.ownsRow base e size v n xs)
    (a : Addr) (m c : Nat) (news : List Value) (hl : news.length = m * size) (hnews : ∀ j u, news[j]? = some u → w.cell? (a.add j) = some u) (h1 : ∀ u ∈ news, u.oneCell' = true)
    (h63 : n + m ≤ maxLen) (hbytes : (n + m) * bytes ≤ 140737488355328) (hbase : base ≤ w.heap.size) :
    ∃ v' w', (Builtin.append_ #[t, t] ty #[v, .slice (some a) m c]).run Try.prog w = .ok v' w' ∧ w'.ownsRow base e size v' (n + m) (xs ++ news) ∧ w.grownBy w' v.ownBlock ∧ w'.ownsRow base e size v n xs ∧ (v'.ownBlock = v.ownBlock ∨ ∀ g, v'.ownBlock = some g → w.heap.size ≤ g) := by
  obtain ⟨v', w', hr, ho, hg, hnn⟩ := run_append_own (P := Try.prog) w base t ty e i z size bytes ht hi hz hsize hby hzs hsz v n xs hown a m c news hl hnews h1 h63 hbytes hbase
  refine ⟨v', w', hr, ho, hg, ?_⟩
  subst hsize
  subst hby
  have hsmall : n + m ≤ 9223372036854775807 := by simp only [maxLen] at h63; omega
  rcases hown.2 with ⟨rfl, rfl⟩ | ⟨g, cap, cur, rfl, hbg, hgx, hnc, hcm, hcs, htake⟩
  · have hx : xs = [] := List.eq_nil_of_length_eq_zero (by simpa using hown.1)
    subst hx
    refine ⟨World.ownsRow_nil w' base e i.size, ?_⟩
    by_cases hm : m = 0
    · exact .inl (by rw [hnn.2 ⟨rfl, hm⟩])
    · have hr2 := run_append_nil (P := Try.prog) w t ty e i z ht hi hz a m c news hl hnews (by omega) (by omega) (by have hb := hbytes; simp only [Nat.zero_add] at hb; omega)
      rw [hr2] at hr
      injection hr with hr3 hr4
      subst hr3
      refine .inr fun g hg' => ?_
      obtain rfl : w.heap.size = g := Option.some.inj hg'
      exact Nat.le_refl _
  · by_cases hroom : n + m ≤ cap
    · have hfit : n * i.size + news.length ≤ cur.size := by rw [hl, hcs, ← Nat.add_mul]; exact Nat.mul_le_mul_right _ hroom
      have hr2 := run_append_room (P := Try.prog) w t ty e i ht hi g n cap cur hgx a m c news hl hnews h1 hroom hfit
      rw [hr2] at hr
      injection hr with hr3 hr4
      subst hr3
      subst hr4
      refine ⟨⟨hown.1, .inr ⟨g, cap, _, rfl, hbg, setRow_heap w g cur _ e _ hgx, hnc, hcm, ?_, ?_⟩⟩, .inl rfl⟩
      · simp only [List.size_toArray, List.length_append, List.length_take, List.length_drop, Array.length_toList]
        omega
      · rw [htake, List.append_assoc, ← hown.1]
        exact List.take_left
    · have holds : ∀ j u, xs[j]? = some u → w.cell? ((⟨g, 0, none⟩ : Addr).add j) = some u := hown.cells (g := g) rfl
      have hr2 := run_append_grow (P := Try.prog) w t ty e i z ht hi hz ⟨g, 0, none⟩ n cap xs hown.1 holds a m c news hl hnews (by omega) (by omega) (growslice_fits (by omega) hbytes)
      rw [hr2] at hr
      injection hr with hr3 hr4
      subst hr3
      subst hr4
      refine ⟨World.ownsRow.kept hown (row := none) ⟨rfl, rfl, rfl, by simp, fun k hk _ => heap_alloc_old w.drew _ hk⟩ (.inr (by simp [Value.ownBlock])), .inr fun g' hg' => ?_⟩
      obtain rfl : w.heap.size = g' := Option.some.inj hg'
      exact Nat.le_refl _
abbrev HE := Value × Value × UInt8
def hcl : List HE → List Value
  | [] => []
  | e :: r => e.1 :: e.2.1 :: vb e.2.2 :: hcl r
theorem hcl_length (l : List HE) : (hcl l).length = l.length * 3 := by
  induction l with
  | nil => rfl
  | cons e r ih => simp only [hcl, List.length_cons, ih]; omega
theorem hcl_append (a b : List HE) : hcl (a ++ b) = hcl a ++ hcl b := by
  induction a with
  | nil => rfl
  | cons e r ih => simp only [List.cons_append, hcl, ih]
theorem hcl_get (l : List HE) : ∀ i (h : i < l.length), (hcl l)[i * 3]? = some l[i].1 ∧ (hcl l)[i * 3 + 1]? = some l[i].2.1 ∧ (hcl l)[i * 3 + 2]? = some (vb l[i].2.2) := by
  induction l with
  | nil => intro i h; simp at h
  | cons e r ih =>
    intro i h
    cases i with
    | zero => exact ⟨rfl, rfl, rfl⟩
    | succ i =>
      have := ih i (by simpa using h)
      simp only [hcl, List.getElem_cons_succ]
      rw [show (i + 1) * 3 = i * 3 + 1 + 1 + 1 by omega, show i * 3 + 1 + 1 + 1 + 1 = (i * 3 + 1) + 1 + 1 + 1 by omega, show i * 3 + 1 + 1 + 1 + 2 = (i * 3 + 2) + 1 + 1 + 1 by omega]
      simpa using this
/-- the first i are y -/
def fil (y : UInt8) (l : List UInt8) (i : Nat) : List UInt8 := List.replicate i y ++ l.drop i
theorem fil_len {y : UInt8} {l : List UInt8} {i : Nat} (h : i ≤ l.length) : (fil y l i).length = l.length := by simp [fil]; omega
theorem fil_set {y : UInt8} {l : List UInt8} {i : Nat} (h : i < l.length) : (fil y l i).set i y = fil y l (i + 1) := by
  unfold fil
  rw [List.set_append_right _ _ (by simp)]
  simp only [List.length_replicate, Nat.sub_self]
  rw [List.drop_eq_getElem_cons h, List.set_cons_zero, List.replicate_succ', List.append_assoc]
  rfl
theorem fil_zero (y : UInt8) (l : List UInt8) : fil y l 0 = l := by simp [fil]
theorem fil_all (y : UInt8) (l : List UInt8) : fil y l l.length = List.replicate l.length y := by simp [fil]
theorem mark_of (n : Nat) : ∃ mk : UInt8, IntKind.u8.wrap ((n : Int) * 7 + 3) = (mk.toNat : Int) := by
  refine ⟨UInt8.ofNat ((n * 7 + 3) % 256), ?_⟩
  rw [IntKind.wrap_u8, UInt8.toNat_ofNat']
  omega
theorem hcl_one (L : List HE) : hcl L = L.flatMap fun e => [e.1, e.2.1, vb e.2.2] := by
  induction L with
  | nil => rfl
  | cons e r ih => simp only [hcl, ih, List.flatMap_cons, List.cons_append, List.nil_append]
theorem ow_fil {w : World} {B g n c i : Nat} {m : UInt8} {d : List UInt8} (h : w.ownsRow B 5 1 (.slice (some ⟨g, 0, none⟩) n c) n (cb (fil m d i))) (hn : d.length = n) (hi : i < n) :
    (∃ u, w.cell? ⟨g, i, none⟩ = some u) ∧ w.frozen? ⟨g, i, none⟩ = false ∧ (w.setCell ⟨g, i, none⟩ (vb m)).ownsRow B 5 1 (.slice (some ⟨g, 0, none⟩) n c) n (cb (fil m d (i + 1))) := by
  have hl : (fil m d i).length = n := by rw [fil_len (by omega), hn]
  have h' : Ow w B (.slice (some ⟨g, 0, none⟩) n c) (fil m d i) := by unfold Ow; rw [hl]; exact h
  have h1 := ow_cells h' (i := i) (by rw [hl]; exact hi)
  have h2 := Ow.put h' i m
  unfold Ow at h2
  rw [List.length_set, hl, fil_set (by omega)] at h2
  exact ⟨⟨_, h1.1⟩, h1.2, h2⟩
set_option maxRecDepth 100000 in
set_option maxHeartbeats 4000000 in
theorem hold_walk (w : World) (bb : Nat) (v : Value) (d : List UInt8) (ba : Option Addr) (L : List HE) (bc : Nat) (hB : At w bb 90 [.slice ba L.length bc]) (hL : w.ownsRow 0 132 3 (.slice ba L.length bc) L.length (hcl L)) (hO : Ow w 0 v d) (hd : d.length ≤ 1099511627000) (hLn : L.length ≤ 1099511627000) :
    Calls Try.prog 71 #[.pointer (some ⟨bb, 0, none⟩), v] w fun e w' => e = .returned (.tuple #[]) ∧ ∃ ba' bc' v2 mk, At w' bb 90 [.slice ba' (L.length + 1) bc'] ∧ w'.ownsRow 0 132 3 (.slice ba' (L.length + 1) bc') (L.length + 1) (hcl (L ++ [(v, v2, mk)])) ∧
      Ow w' 0 v (List.replicate d.length mk) ∧ Ow w' 0 v2 (List.replicate (d.length + 1) mk) ∧ Frs w v v2 ∧ Frs w (.slice ba L.length bc) (.slice ba' (L.length + 1) bc') ∧ Fr (fun k => k = bb ∨ v.ownBlock = some k ∨ (Value.slice ba L.length bc).ownBlock = some k) w w' := by
  obtain ⟨va, vc, rfl, _, _⟩ := Ow.sb hO
  have c0 := hB.cell (i := 0) rfl
  obtain ⟨mk, hmk⟩ := mark_of L.length
  obtain ⟨i8, i8a, i8b, i8c, i8d⟩ := info_parts Try.infoU8
  obtain ⟨ih, iha, ihb, ihc, ihd⟩ := info_parts infoHeld
  obtain ⟨n, hn⟩ : ∃ n, d.length = n := ⟨_, rfl⟩
  have HNN := Hid.of (And.intro hn trivial)
  have hO' : w.ownsRow 0 5 1 (.slice va d.length vc) d.length (cb d) := hO
  rw [hn] at hO' hd ⊢
  have hl7 : IntKind.i64.wrap ((L.length : Int) * 7) = (L.length : Int) * 7 := by rw [IntKind.wrap_i64]; omega
  have hl8 : IntKind.i64.wrap ((L.length : Int) * 7 + 3) = (L.length : Int) * 7 + 3 := by rw [IntKind.wrap_i64]; omega
  have hvb : (Value.slice va n vc).ownBlock ≠ some bb := own_ne hO' hB (by decide)
  have hlb : (Value.slice ba L.length bc).ownBlock ≠ some bb := own_ne hL hB (by decide)
  have HI0 := Hid.of (show w.ownsRow 0 5 1 (.slice va n vc) n (cb (fil mk d 0)) ∧ Fr (fun k => (Value.slice va n vc).ownBlock = some k) w w from ⟨by rw [fil_zero]; exact hO', Fr.refl _ _⟩)
  have HB := Hid.of hB
  have HL := Hid.of hL
  have HNE := Hid.of (And.intro hvb hlb)
  have HUL := Hid.of (show ∀ g, (Value.slice va n vc).ownBlock = some g → (Value.slice ba L.length bc).ownBlock ≠ some g from fun g hg => own_apart hO' hL (by decide) hg)
  clear hB hL hO hO' hn hvb hlb
  go_enter Try.func71, Try.ntmps71
  go_wp2
  clear c0 hl7 hl8 hmk
  go_loopw [5] (fun v5 wr => ∃ i : Nat, v5 = .int .i64 (i : Int) ∧ i ≤ n ∧ Hid (wr.ownsRow 0 5 1 (.slice va n vc) n (cb (fil mk d i)) ∧ Fr (fun k => (Value.slice va n vc).ownBlock = some k) w wr)) (fun v5 _ => n - (intOf v5).toNat)
  case atStart => exact ⟨0, rfl, by omega, HI0⟩
  case round =>
    clear HI0
    obtain ⟨i, rfl, hi, hR⟩ := hrel
    have HR := Hid.of hR.out
    clear hR
    by_cases hlt : i < n
    · have hltz : (i : Int) < (n : Int) := by omega
      have hiw : IntKind.i64.wrap ((i : Int) + 1) = (i : Int) + 1 := by rw [IntKind.wrap_i64]; omega
      obtain ⟨g, rfl, _⟩ := own_get (h := HR.out.1) hlt
      obtain ⟨⟨u, k0⟩, k1, k2⟩ := ow_fil HR.out.1 HNN.out.1 hlt
      have HX := Hid.of (show (wr.setCell ⟨g, i, none⟩ (vb mk)).ownsRow 0 5 1 (.slice (some ⟨g, 0, none⟩) n vc) n (cb (fil mk d (i + 1))) ∧ Fr (fun k => (Value.slice (some ⟨g, 0, none⟩) n vc).ownBlock = some k) w (wr.setCell ⟨g, i, none⟩ (vb mk)) from ⟨k2, HR.out.2.by (grown_set wr ⟨g, i, none⟩ (vb mk)) (fun q hq => .inl hq)⟩)
      clear k2
      go_wp2
      go_roundw
      case rel => exact ⟨i + 1, by simp, by omega, HX⟩
      case measure => simp [intOf]; omega
    · have hltz : ¬ (i : Int) < (n : Int) := by omega
      obtain rfl : i = n := by omega
      have HV := Hid.of (show wr.ownsRow 0 5 1 (.slice va i vc) i (cb (List.replicate i mk)) by
        have := HR.out.1
        rw [show fil mk d i = List.replicate i mk by rw [← HNN.out.1, fil_all]] at this
        exact this)
      have HF := Hid.of HR.out.2
      have HB1 := Hid.of (HF.out.at HB.out HNE.out.1)
      have HL1 := Hid.of (HF.out.own HL.out (fun g hg hk => HUL.out g hk hg))
      have HCB := Hid.of (show ∀ w5, Fr (fun k => (Value.slice va i vc).ownBlock = some k) wr w5 → w5.cell? ⟨bb, 0, none⟩ = some (.slice ba L.length bc) from fun w5 hf => (hf.at HB1.out HNE.out.1).cell (i := 0) rfl)
      clear HR
      go_wp2
      refine wp_region_held_drew (S := fun w2 => Fr (fun k => k = bb ∨ (Value.slice va i vc).ownBlock = some k ∨ (Value.slice ba L.length bc).ownBlock = some k) wr w2) (by kernel_rfl) ((Fr.refl _ _).up (Up.refl _).drew) (fun hS => ?_)
      refine wpAnyH_take (i := 0) (oi := { dst := some 24, op := Go.Op.move (Go.Operand.tmp 0), type := 38, pos := "law.go:87", after := #[], guard := none }) (v := .pointer (some ⟨bb, 0, none⟩)) rfl (by kernel_rfl) (by kernel_rfl) (by kernel_rfl) (fun _ _ _ h => h) (Or.inl ⟨by kernel_rfl, ?_⟩) hS ?_
      · intro w5 hSw
        clear hSw hS
        go_simp
      simp only [Act.put, List.setIfInBounds_toArray, List.set_cons_zero, List.set_cons_succ]
      refine wpAnyH_take (i := 1) (oi := { dst := some 25, op := Go.Op.move (Go.Operand.tmp 0), type := 38, pos := "law.go:87", after := #[], guard := none }) (v := .pointer (some ⟨bb, 0, none⟩)) rfl (by kernel_rfl) (by kernel_rfl) (by kernel_rfl) (fun _ _ _ h => h) (Or.inl ⟨by kernel_rfl, ?_⟩) hS ?_
      · intro w5 hSw
        clear hSw hS
        go_simp
      simp only [Act.put, List.setIfInBounds_toArray, List.set_cons_zero, List.set_cons_succ]
      refine wpAnyH_take (i := 2) (oi := { dst := some 26, op := Go.Op.nilCheck (Go.Operand.tmp 25), type := 0, pos := "law.go:87", after := #[{ on := 1, ground := Go.Ground.data }], guard := none }) (v := .pointer (some ⟨bb, 0, none⟩)) rfl (by kernel_rfl) (by kernel_rfl) (by kernel_rfl) (fun _ _ _ h => h) (Or.inl ⟨by kernel_rfl, ?_⟩) hS ?_
      · intro w5 hSw
        clear hSw hS
        go_simp
      simp only [Act.put, List.setIfInBounds_toArray, List.set_cons_zero, List.set_cons_succ]
      refine wpAnyH_take (i := 3) (oi := { dst := some 27, op := Go.Op.fieldAddr 90 (Go.Operand.tmp 26) 0, type := 0, pos := "law.go:87", after := #[{ on := 2, ground := Go.Ground.data }], guard := none }) (v := .pointer (some ⟨bb, 0, none⟩)) rfl (by kernel_rfl) (by kernel_rfl) (by kernel_rfl) (fun _ _ _ h => h) (Or.inl ⟨by kernel_rfl, ?_⟩) hS ?_
      · intro w5 hSw
        clear hSw hS
        go_simp
      simp only [Act.put, List.setIfInBounds_toArray, List.set_cons_zero, List.set_cons_succ]
      refine wpAnyH_take (i := 5) (oi := { dst := some 29, op := Go.Op.move (Go.Operand.tmp 1), type := 47, pos := "law.go:87", after := #[], guard := none }) (v := .slice va i vc) rfl (by kernel_rfl) (by kernel_rfl) (by kernel_rfl) (fun _ _ _ h => h) (Or.inl ⟨by kernel_rfl, ?_⟩) hS ?_
      · intro w5 hSw
        clear hSw hS
        go_simp
      simp only [Act.put, List.setIfInBounds_toArray, List.set_cons_zero, List.set_cons_succ]
      refine wpAnyH_take (i := 6) (oi := { dst := some 30, op := Go.Op.move (Go.Operand.tmp 1), type := 47, pos := "law.go:87", after := #[], guard := none }) (v := .slice va i vc) rfl (by kernel_rfl) (by kernel_rfl) (by kernel_rfl) (fun _ _ _ h => h) (Or.inl ⟨by kernel_rfl, ?_⟩) hS ?_
      · intro w5 hSw
        clear hSw hS
        go_simp
      simp only [Act.put, List.setIfInBounds_toArray, List.set_cons_zero, List.set_cons_succ]
      refine wpAnyH_take (i := 7) (oi := { dst := some 31, op := Go.Op.move (Go.Operand.tmp 4), type := 5, pos := "law.go:87", after := #[], guard := none }) (v := .int .u8 (mk.toNat : Int)) rfl (by kernel_rfl) (by kernel_rfl) (by kernel_rfl) (fun _ _ _ h => h) (Or.inl ⟨by kernel_rfl, ?_⟩) hS ?_
      · intro w5 hSw
        clear hSw hS
        go_simp
      simp only [Act.put, List.setIfInBounds_toArray, List.set_cons_zero, List.set_cons_succ]
      refine wpAnyH_take (i := 10) (oi := { dst := some 34, op := Go.Op.move (Go.Operand.tmp 4), type := 5, pos := "law.go:87", after := #[], guard := none }) (v := .int .u8 (mk.toNat : Int)) rfl (by kernel_rfl) (by kernel_rfl) (by kernel_rfl) (fun _ _ _ h => h) (Or.inl ⟨by kernel_rfl, ?_⟩) hS ?_
      · intro w5 hSw
        clear hSw hS
        go_simp
      simp only [Act.put, List.setIfInBounds_toArray, List.set_cons_zero, List.set_cons_succ]
      refine wpAnyH_ready (rs := [4, 8]) (by kernel_rfl) (by simp) ?_
      refine AllReadyH.cons (o := { dst := some 28, op := Go.Op.load 88 (Go.Operand.tmp 27), type := 88, pos := "law.go:87", after := #[{ on := 3, ground := Go.Ground.data }], guard := none }) rfl (fun K hK => ?_) (AllReadyH.cons (o := { dst := some 32, op := Go.Op.buildSlice 47 1 #[(0, Go.Operand.tmp 31)], type := 47, pos := "law.go:87", after := #[{ on := 7, ground := Go.Ground.data }], guard := none }) rfl (fun K hK => ?_) (AllReadyH.nil))
      · rw [if_pos (by kernel_rfl)]
        have h0 := HCB.out _ (show Fr (fun k => (Value.slice va i vc).ownBlock = some k) wr _ from by first | exact HF6.out | exact HF5.out | exact (Fr.refl _ wr).up HU4.out | exact (Fr.refl _ wr).up (Up.refl wr).drew)
        go_simp
        refine hK.out _ _ hS (fun hS2 => ?_)
        clear hK K hS h0
        have hS := hS2
        clear hS2
        refine wpAnyH_ready (rs := [8]) (by kernel_rfl) (by simp) ?_
        refine AllReadyH.cons (o := { dst := some 32, op := Go.Op.buildSlice 47 1 #[(0, Go.Operand.tmp 31)], type := 47, pos := "law.go:87", after := #[{ on := 7, ground := Go.Ground.data }], guard := none }) rfl (fun K hK => ?_) AllReadyH.nil
        rw [if_pos (by kernel_rfl)]
        go_simp
        have HU4 := Hid.of (((Up.refl wr).alloc (.cells #[.int .u8 (mk.toNat : Int)] 5)).drew)
        generalize hW4 : (wr.alloc (.cells #[.int .u8 (mk.toNat : Int)] 5)).drew = W4 at *
        have HA4 : Hid (At W4 wr.heap.size 5 [.int .u8 (mk.toNat : Int)]) := by
          rw [← hW4]
          exact (at_new wr 5 [.int .u8 (mk.toNat : Int)]).up (Up.refl _).drew
        clear hW4
        refine hK.out _ _ ((Fr.refl _ _).up HU4.out) (fun hS2 => ?_)
        clear hK K hS
        have hS := hS2
        clear hS2
        refine wpAnyH_ready (rs := [9]) (by kernel_rfl) (by simp) ?_
        refine AllReadyH.cons (o := { dst := some 33, op := Go.Op.call { callee := Go.Callee.builtin Go.Builtin.append, args := #[Go.Operand.tmp 30, Go.Operand.tmp 32], argTypes := #[47, 47] }, type := 47, pos := "law.go:87", after := #[{ on := 6, ground := Go.Ground.data }, { on := 8, ground := Go.Ground.data }], guard := none }) rfl (fun K hK => ?_) AllReadyH.nil
        rw [if_pos (by kernel_rfl)]
        obtain ⟨v5, W5, hap, ho5, hg5, hx5, hn5⟩ := app_both (w := W4) 0 47 47 5 i8 (.int .u8 0) 1 1 Try.underlying47 i8a i8b i8c i8d rfl (by decide) (.slice va i vc) i _ (ow_up HV.out HU4.out) ⟨wr.heap.size, 0, none⟩ 1 1 [.int .u8 (mk.toNat : Int)] rfl (fun j u hu => by rw [Addr.add_lit, Nat.zero_add]; exact HA4.out.cell hu) (fun u hu => by obtain rfl := List.mem_singleton.1 hu; rfl) (by simp only [maxLen]; omega) (by omega) (Nat.zero_le _)
        obtain ⟨va2, vc2, rfl⟩ := row_len ho5
        have HF5 := Hid.of (show Fr (fun k => (Value.slice va i vc).ownBlock = some k) wr W5 from ((Fr.refl _ wr).up HU4.out).by hg5 (fun g hg => .inl hg))
        have HO5 := Hid.of (show W5.ownsRow 0 5 1 (.slice va2 (i + 1) vc2) (i + 1) (cb (List.replicate (i + 1) mk)) by rw [List.replicate_succ', cb_append]; exact ho5)
        have HV5 := Hid.of hx5
        have HN5 := Hid.of (show Frs wr (.slice va i vc) (.slice va2 (i + 1) vc2) from fun g hg => hn5.elim (fun h => .inl (by rw [← h]; exact hg)) (fun h => .inr (Nat.le_trans HU4.out.size (h g hg))))
        clear ho5 hg5 hx5 hn5
        refine wp_app (v := .slice va i vc) (y := .slice (some ⟨wr.heap.size, 0, none⟩) 1 1) rfl rfl rfl hap ?_
        simp only [Act.put, List.setIfInBounds_toArray, List.set_cons_zero, List.set_cons_succ]
        refine hK.out _ _ (HF5.out.weak (fun g hg => .inr (.inl hg))) (fun hS2 => ?_)
        clear hK K hS hap
        have hS := hS2
        clear hS2
        refine wpAnyH_take (i := 11) (oi := { dst := some 35, op := Go.Op.build 132 #[(0, Go.Operand.tmp 29), (1, Go.Operand.tmp 33), (2, Go.Operand.tmp 34)], type := 132, pos := "law.go:87", after := #[{ on := 5, ground := Go.Ground.data }, { on := 9, ground := Go.Ground.data }, { on := 10, ground := Go.Ground.data }], guard := none }) (v := .agg #[.slice va i vc, .slice va2 (i + 1) vc2, .int .u8 (mk.toNat : Int)]) rfl (by kernel_rfl) (by kernel_rfl) (by kernel_rfl) (fun _ _ _ h => h) (Or.inl ⟨by kernel_rfl, ?_⟩) hS ?_
        · intro w5 hSw
          clear hSw hS
          go_simp
        simp only [Act.put, List.setIfInBounds_toArray, List.set_cons_zero, List.set_cons_succ]
        refine wpAnyH_ready (rs := [12]) (by kernel_rfl) (by simp) ?_
        refine AllReadyH.cons (o := { dst := some 36, op := Go.Op.buildSlice 88 1 #[(0, Go.Operand.tmp 35)], type := 88, pos := "law.go:87", after := #[{ on := 11, ground := Go.Ground.data }], guard := none }) rfl (fun K hK => ?_) AllReadyH.nil
        rw [if_pos (by kernel_rfl)]
        go_simp
        have HU6 := Hid.of ((Up.refl W5).alloc (.cells #[.slice va i vc, .slice va2 (i + 1) vc2, .int .u8 (mk.toNat : Int)] 132))
        have HA6 := Hid.of (at_new W5 132 [.slice va i vc, .slice va2 (i + 1) vc2, .int .u8 (mk.toNat : Int)])
        have HS6 := Hid.of (rfl : W5.heap.size = W5.heap.size)
        generalize hbl : W5.heap.size = bl at HA6 ⊢
        generalize W5.alloc (.cells #[.slice va i vc, .slice va2 (i + 1) vc2, .int .u8 (mk.toNat : Int)] 132) = W6 at *
        have HF6 := Hid.of (HF5.out.up HU6.out)
        clear hbl HS6
        refine hK.out _ _ (HF6.out.weak (fun g hg => .inr (.inl hg))) (fun hS2 => ?_)
        clear hK K hS
        have hS := hS2
        clear hS2
        refine wpAnyH_ready (rs := [13]) (by kernel_rfl) (by simp) ?_
        refine AllReadyH.cons (o := { dst := some 37, op := Go.Op.call { callee := Go.Callee.builtin Go.Builtin.append, args := #[Go.Operand.tmp 28, Go.Operand.tmp 36], argTypes := #[88, 88] }, type := 88, pos := "law.go:87", after := #[{ on := 4, ground := Go.Ground.data }, { on := 12, ground := Go.Ground.data }, { on := 9, ground := Go.Ground.chain }], guard := none }) rfl (fun K hK => ?_) AllReadyH.nil
        rw [if_pos (by kernel_rfl)]
        have hl6 := HF6.out.own HL1.out (fun g hg hk => HUL.out g hk hg)
        obtain ⟨v7, W7, hap, ho7, hg7, hf7⟩ := run_append_frsN (P := Try.prog) W6 0 88 88 132 ih (.agg #[.slice none 0 0, .slice none 0 0, .int .u8 0]) 3 56 Try.underlying88 iha ihb ihc ihd rfl (by decide) (.slice ba L.length bc) _ _ hl6 ⟨bl, 0, none⟩ 1 1 [.slice va i vc, .slice va2 (i + 1) vc2, .int .u8 (mk.toNat : Int)] rfl (fun j u hu => by rw [Addr.add_lit, Nat.zero_add]; exact HA6.out.cell hu) (fun u hu => by
          simp only [List.mem_cons, List.not_mem_nil, or_false] at hu
          rcases hu with rfl | rfl | rfl <;> rfl) (by simp only [maxLen]; omega) (by omega) (Nat.zero_le _)
        obtain ⟨la2, lc2, e7, _, _⟩ := row_n ho7
        subst e7
        have HF7 := Hid.of (show Fr (fun k => (Value.slice va i vc).ownBlock = some k ∨ (Value.slice ba L.length bc).ownBlock = some k) wr W7 from (HF6.out.weak (fun g hg => .inl hg)).by hg7 (fun g hg => .inl (.inr hg)))
        have HO7 := Hid.of ho7
        have HN7 := Hid.of (show Frs wr (.slice ba L.length bc) (.slice la2 (L.length + 1) lc2) from fun g hg => (hf7 g hg).imp id (fun h => Nat.le_trans HF6.out.size h))
        have HFX := Hid.of (show Fr (fun k => (Value.slice ba L.length bc).ownBlock = some k) W5 W7 from ((Fr.refl _ W5).up HU6.out).by hg7 (fun g hg => .inl hg))
        clear ho7 hg7 hf7 hl6
        refine wp_app (v := .slice ba L.length bc) (y := .slice (some ⟨bl, 0, none⟩) 1 1) rfl rfl rfl hap ?_
        simp only [Act.put, List.setIfInBounds_toArray, List.set_cons_zero, List.set_cons_succ]
        refine hK.out _ _ (HF7.out.weak (fun g hg => .inr hg)) (fun hS2 => ?_)
        clear hK K hS hap
        have hS := hS2
        clear hS2
        refine wpAnyH_take (i := 14) (oi := { dst := some 38, op := Go.Op.nilCheck (Go.Operand.tmp 24), type := 0, pos := "law.go:87", after := #[{ on := 0, ground := Go.Ground.data }, { on := 0, ground := Go.Ground.phase }, { on := 1, ground := Go.Ground.phase }, { on := 2, ground := Go.Ground.phase }, { on := 3, ground := Go.Ground.phase }, { on := 4, ground := Go.Ground.phase }, { on := 5, ground := Go.Ground.phase }, { on := 6, ground := Go.Ground.phase }, { on := 7, ground := Go.Ground.phase }, { on := 8, ground := Go.Ground.phase }, { on := 9, ground := Go.Ground.phase }, { on := 10, ground := Go.Ground.phase }, { on := 11, ground := Go.Ground.phase }, { on := 12, ground := Go.Ground.phase }, { on := 13, ground := Go.Ground.phase }], guard := none }) (v := .pointer (some ⟨bb, 0, none⟩)) rfl (by kernel_rfl) (by kernel_rfl) (by kernel_rfl) (fun _ _ _ h => h) (Or.inl ⟨by kernel_rfl, ?_⟩) hS ?_
        · intro w5 hSw
          clear hSw hS
          go_simp
        simp only [Act.put, List.setIfInBounds_toArray, List.set_cons_zero, List.set_cons_succ]
        refine wpAnyH_take (i := 15) (oi := { dst := some 39, op := Go.Op.fieldAddr 90 (Go.Operand.tmp 38) 0, type := 0, pos := "law.go:87", after := #[{ on := 14, ground := Go.Ground.data }, { on := 0, ground := Go.Ground.phase }, { on := 1, ground := Go.Ground.phase }, { on := 2, ground := Go.Ground.phase }, { on := 3, ground := Go.Ground.phase }, { on := 4, ground := Go.Ground.phase }, { on := 5, ground := Go.Ground.phase }, { on := 6, ground := Go.Ground.phase }, { on := 7, ground := Go.Ground.phase }, { on := 8, ground := Go.Ground.phase }, { on := 9, ground := Go.Ground.phase }, { on := 10, ground := Go.Ground.phase }, { on := 11, ground := Go.Ground.phase }, { on := 12, ground := Go.Ground.phase }, { on := 13, ground := Go.Ground.phase }], guard := none }) (v := .pointer (some ⟨bb, 0, none⟩)) rfl (by kernel_rfl) (by kernel_rfl) (by kernel_rfl) (fun _ _ _ h => h) (Or.inl ⟨by kernel_rfl, ?_⟩) hS ?_
        · intro w5 hSw
          clear hSw hS
          go_simp
        simp only [Act.put, List.setIfInBounds_toArray, List.set_cons_zero, List.set_cons_succ]
        refine wpAnyH_ready (rs := [16]) (by kernel_rfl) (by simp) ?_
        refine AllReadyH.cons (o := { dst := none, op := Go.Op.store 88 (Go.Operand.tmp 39) (Go.Operand.tmp 37), type := 0, pos := "law.go:87", after := #[{ on := 15, ground := Go.Ground.data }, { on := 13, ground := Go.Ground.data }, { on := 13, ground := Go.Ground.chain }, { on := 0, ground := Go.Ground.phase }, { on := 1, ground := Go.Ground.phase }, { on := 2, ground := Go.Ground.phase }, { on := 3, ground := Go.Ground.phase }, { on := 4, ground := Go.Ground.phase }, { on := 5, ground := Go.Ground.phase }, { on := 6, ground := Go.Ground.phase }, { on := 7, ground := Go.Ground.phase }, { on := 8, ground := Go.Ground.phase }, { on := 9, ground := Go.Ground.phase }, { on := 10, ground := Go.Ground.phase }, { on := 11, ground := Go.Ground.phase }, { on := 12, ground := Go.Ground.phase }, { on := 13, ground := Go.Ground.phase }], guard := none }) rfl (fun K hK => ?_) AllReadyH.nil
        rw [if_pos (by kernel_rfl)]
        have hA7 : At W7 bb 90 [.slice ba L.length bc] := HF7.out.at HB1.out (fun e => e.elim (fun e => HNE.out.1 e) (fun e => HNE.out.2 e))
        have cw := hA7.cell (i := 0) rfl
        have tw := hA7.thaw 0
        have hA8 := hA7.set 0 (.slice la2 (L.length + 1) lc2)
        simp only [List.set_cons_zero] at hA8
        have HA8 := Hid.of hA8
        have hg8 := grown_at W7 bb 0 (.slice la2 (L.length + 1) lc2)
        have HF8 := Hid.of (show Fr (fun k => k = bb ∨ (Value.slice va i vc).ownBlock = some k ∨ (Value.slice ba L.length bc).ownBlock = some k) wr (W7.setCell ⟨bb, 0, none⟩ (.slice la2 (L.length + 1) lc2)) from (HF7.out.weak (fun g hg => .inr hg)).by hg8 (fun g hg => .inl (.inl (Option.some.inj hg).symm)))
        have HO8 := Hid.of (World.ownsRow.kept HO7.out hg8 (.inr (own_ne HO7.out hA7 (by decide))))
        have HFY := Hid.of (show Fr (fun k => k = bb ∨ (Value.slice ba L.length bc).ownBlock = some k) W5 (W7.setCell ⟨bb, 0, none⟩ (.slice la2 (L.length + 1) lc2)) from (HFX.out.weak (fun g hg => .inr hg)).by hg8 (fun g hg => .inl (.inl (Option.some.inj hg).symm)))
        go_simp
        clear hA7 cw tw hA8 hg8
        generalize W7.setCell ⟨bb, 0, none⟩ (.slice la2 (L.length + 1) lc2) = W8 at *
        refine hK.out _ _ HF8.out (fun hS2 => ?_)
        clear hK K hS hS2
        refine wpAnyH_done (by kernel_rfl) ?_ _
        go_wp2
        go_end0
        have off : ∀ g t, otag W5 g = some t → t = 5 → ¬ (g = bb ∨ (Value.slice ba L.length bc).ownBlock = some g) := fun g t ht h1 hk => by
          subst h1
          rcases hk with rfl | hk
          · have := (HF5.out.at HB1.out HNE.out.1).tag
            rw [this] at ht; cases ht
          · have := row_tag (HF5.out.own HL1.out (fun g hg hk => HUL.out g hk hg)) hk
            rw [this] at ht; cases ht
        refine ⟨rfl, la2, lc2, .slice va2 (i + 1) vc2, mk, HA8.out, ?_, ?_, ?_, fun g hg => (HN5.out g hg).imp id (fun h => Nat.le_trans HF.out.size h), fun g hg => (HN7.out g hg).imp id (fun h => Nat.le_trans HF.out.size h), (HF.out.weak (fun g hg => .inr (.inl hg))).trans HF8.out (fun x hx => .inl hx)⟩
        · rw [hcl_append]
          exact HO8.out
        · unfold Ow
          rw [List.length_replicate]
          exact HFY.out.own HV5.out (fun g hg => off g _ (row_tag HV5.out hg) rfl)
        · unfold Ow
          rw [List.length_replicate]
          exact HFY.out.own HO5.out (fun g hg => off g _ (row_tag HO5.out hg) rfl)
      · rw [if_pos (by kernel_rfl)]
        go_simp
        have HU4 := Hid.of (((Up.refl wr).alloc (.cells #[.int .u8 (mk.toNat : Int)] 5)).drew)
        generalize hW4 : (wr.alloc (.cells #[.int .u8 (mk.toNat : Int)] 5)).drew = W4 at *
        have HA4 : Hid (At W4 wr.heap.size 5 [.int .u8 (mk.toNat : Int)]) := by
          rw [← hW4]
          exact (at_new wr 5 [.int .u8 (mk.toNat : Int)]).up (Up.refl _).drew
        clear hW4
        refine hK.out _ _ ((Fr.refl _ _).up HU4.out) (fun hS2 => ?_)
        clear hK K hS
        have hS := hS2
        clear hS2
        refine wpAnyH_ready (rs := [4, 9]) (by kernel_rfl) (by simp) ?_
        refine AllReadyH.cons (o := { dst := some 28, op := Go.Op.load 88 (Go.Operand.tmp 27), type := 88, pos := "law.go:87", after := #[{ on := 3, ground := Go.Ground.data }], guard := none }) rfl (fun K hK => ?_) (AllReadyH.cons (o := { dst := some 33, op := Go.Op.call { callee := Go.Callee.builtin Go.Builtin.append, args := #[Go.Operand.tmp 30, Go.Operand.tmp 32], argTypes := #[47, 47] }, type := 47, pos := "law.go:87", after := #[{ on := 6, ground := Go.Ground.data }, { on := 8, ground := Go.Ground.data }], guard := none }) rfl (fun K hK => ?_) (AllReadyH.nil))
        · rw [if_pos (by kernel_rfl)]
          have h0 := HCB.out _ (show Fr (fun k => (Value.slice va i vc).ownBlock = some k) wr _ from by first | exact HF6.out | exact HF5.out | exact (Fr.refl _ wr).up HU4.out | exact (Fr.refl _ wr).up (Up.refl wr).drew)
          go_simp
          refine hK.out _ _ hS (fun hS2 => ?_)
          clear hK K hS h0
          have hS := hS2
          clear hS2
          refine wpAnyH_ready (rs := [9]) (by kernel_rfl) (by simp) ?_
          refine AllReadyH.cons (o := { dst := some 33, op := Go.Op.call { callee := Go.Callee.builtin Go.Builtin.append, args := #[Go.Operand.tmp 30, Go.Operand.tmp 32], argTypes := #[47, 47] }, type := 47, pos := "law.go:87", after := #[{ on := 6, ground := Go.Ground.data }, { on := 8, ground := Go.Ground.data }], guard := none }) rfl (fun K hK => ?_) AllReadyH.nil
          rw [if_pos (by kernel_rfl)]
          obtain ⟨v5, W5, hap, ho5, hg5, hx5, hn5⟩ := app_both (w := W4) 0 47 47 5 i8 (.int .u8 0) 1 1 Try.underlying47 i8a i8b i8c i8d rfl (by decide) (.slice va i vc) i _ (ow_up HV.out HU4.out) ⟨wr.heap.size, 0, none⟩ 1 1 [.int .u8 (mk.toNat : Int)] rfl (fun j u hu => by rw [Addr.add_lit, Nat.zero_add]; exact HA4.out.cell hu) (fun u hu => by obtain rfl := List.mem_singleton.1 hu; rfl) (by simp only [maxLen]; omega) (by omega) (Nat.zero_le _)
          obtain ⟨va2, vc2, rfl⟩ := row_len ho5
          have HF5 := Hid.of (show Fr (fun k => (Value.slice va i vc).ownBlock = some k) wr W5 from ((Fr.refl _ wr).up HU4.out).by hg5 (fun g hg => .inl hg))
          have HO5 := Hid.of (show W5.ownsRow 0 5 1 (.slice va2 (i + 1) vc2) (i + 1) (cb (List.replicate (i + 1) mk)) by rw [List.replicate_succ', cb_append]; exact ho5)
          have HV5 := Hid.of hx5
          have HN5 := Hid.of (show Frs wr (.slice va i vc) (.slice va2 (i + 1) vc2) from fun g hg => hn5.elim (fun h => .inl (by rw [← h]; exact hg)) (fun h => .inr (Nat.le_trans HU4.out.size (h g hg))))
          clear ho5 hg5 hx5 hn5
          refine wp_app (v := .slice va i vc) (y := .slice (some ⟨wr.heap.size, 0, none⟩) 1 1) rfl rfl rfl hap ?_
          simp only [Act.put, List.setIfInBounds_toArray, List.set_cons_zero, List.set_cons_succ]
          refine hK.out _ _ (HF5.out.weak (fun g hg => .inr (.inl hg))) (fun hS2 => ?_)
          clear hK K hS hap
          have hS := hS2
          clear hS2
          refine wpAnyH_take (i := 11) (oi := { dst := some 35, op := Go.Op.build 132 #[(0, Go.Operand.tmp 29), (1, Go.Operand.tmp 33), (2, Go.Operand.tmp 34)], type := 132, pos := "law.go:87", after := #[{ on := 5, ground := Go.Ground.data }, { on := 9, ground := Go.Ground.data }, { on := 10, ground := Go.Ground.data }], guard := none }) (v := .agg #[.slice va i vc, .slice va2 (i + 1) vc2, .int .u8 (mk.toNat : Int)]) rfl (by kernel_rfl) (by kernel_rfl) (by kernel_rfl) (fun _ _ _ h => h) (Or.inl ⟨by kernel_rfl, ?_⟩) hS ?_
          · intro w5 hSw
            clear hSw hS
            go_simp
          simp only [Act.put, List.setIfInBounds_toArray, List.set_cons_zero, List.set_cons_succ]
          refine wpAnyH_ready (rs := [12]) (by kernel_rfl) (by simp) ?_
          refine AllReadyH.cons (o := { dst := some 36, op := Go.Op.buildSlice 88 1 #[(0, Go.Operand.tmp 35)], type := 88, pos := "law.go:87", after := #[{ on := 11, ground := Go.Ground.data }], guard := none }) rfl (fun K hK => ?_) AllReadyH.nil
          rw [if_pos (by kernel_rfl)]
          go_simp
          have HU6 := Hid.of ((Up.refl W5).alloc (.cells #[.slice va i vc, .slice va2 (i + 1) vc2, .int .u8 (mk.toNat : Int)] 132))
          have HA6 := Hid.of (at_new W5 132 [.slice va i vc, .slice va2 (i + 1) vc2, .int .u8 (mk.toNat : Int)])
          have HS6 := Hid.of (rfl : W5.heap.size = W5.heap.size)
          generalize hbl : W5.heap.size = bl at HA6 ⊢
          generalize W5.alloc (.cells #[.slice va i vc, .slice va2 (i + 1) vc2, .int .u8 (mk.toNat : Int)] 132) = W6 at *
          have HF6 := Hid.of (HF5.out.up HU6.out)
          clear hbl HS6
          refine hK.out _ _ (HF6.out.weak (fun g hg => .inr (.inl hg))) (fun hS2 => ?_)
          clear hK K hS
          have hS := hS2
          clear hS2
          refine wpAnyH_ready (rs := [13]) (by kernel_rfl) (by simp) ?_
          refine AllReadyH.cons (o := { dst := some 37, op := Go.Op.call { callee := Go.Callee.builtin Go.Builtin.append, args := #[Go.Operand.tmp 28, Go.Operand.tmp 36], argTypes := #[88, 88] }, type := 88, pos := "law.go:87", after := #[{ on := 4, ground := Go.Ground.data }, { on := 12, ground := Go.Ground.data }, { on := 9, ground := Go.Ground.chain }], guard := none }) rfl (fun K hK => ?_) AllReadyH.nil
          rw [if_pos (by kernel_rfl)]
          have hl6 := HF6.out.own HL1.out (fun g hg hk => HUL.out g hk hg)
          obtain ⟨v7, W7, hap, ho7, hg7, hf7⟩ := run_append_frsN (P := Try.prog) W6 0 88 88 132 ih (.agg #[.slice none 0 0, .slice none 0 0, .int .u8 0]) 3 56 Try.underlying88 iha ihb ihc ihd rfl (by decide) (.slice ba L.length bc) _ _ hl6 ⟨bl, 0, none⟩ 1 1 [.slice va i vc, .slice va2 (i + 1) vc2, .int .u8 (mk.toNat : Int)] rfl (fun j u hu => by rw [Addr.add_lit, Nat.zero_add]; exact HA6.out.cell hu) (fun u hu => by
            simp only [List.mem_cons, List.not_mem_nil, or_false] at hu
            rcases hu with rfl | rfl | rfl <;> rfl) (by simp only [maxLen]; omega) (by omega) (Nat.zero_le _)
          obtain ⟨la2, lc2, e7, _, _⟩ := row_n ho7
          subst e7
          have HF7 := Hid.of (show Fr (fun k => (Value.slice va i vc).ownBlock = some k ∨ (Value.slice ba L.length bc).ownBlock = some k) wr W7 from (HF6.out.weak (fun g hg => .inl hg)).by hg7 (fun g hg => .inl (.inr hg)))
          have HO7 := Hid.of ho7
          have HN7 := Hid.of (show Frs wr (.slice ba L.length bc) (.slice la2 (L.length + 1) lc2) from fun g hg => (hf7 g hg).imp id (fun h => Nat.le_trans HF6.out.size h))
          have HFX := Hid.of (show Fr (fun k => (Value.slice ba L.length bc).ownBlock = some k) W5 W7 from ((Fr.refl _ W5).up HU6.out).by hg7 (fun g hg => .inl hg))
          clear ho7 hg7 hf7 hl6
          refine wp_app (v := .slice ba L.length bc) (y := .slice (some ⟨bl, 0, none⟩) 1 1) rfl rfl rfl hap ?_
          simp only [Act.put, List.setIfInBounds_toArray, List.set_cons_zero, List.set_cons_succ]
          refine hK.out _ _ (HF7.out.weak (fun g hg => .inr hg)) (fun hS2 => ?_)
          clear hK K hS hap
          have hS := hS2
          clear hS2
          refine wpAnyH_take (i := 14) (oi := { dst := some 38, op := Go.Op.nilCheck (Go.Operand.tmp 24), type := 0, pos := "law.go:87", after := #[{ on := 0, ground := Go.Ground.data }, { on := 0, ground := Go.Ground.phase }, { on := 1, ground := Go.Ground.phase }, { on := 2, ground := Go.Ground.phase }, { on := 3, ground := Go.Ground.phase }, { on := 4, ground := Go.Ground.phase }, { on := 5, ground := Go.Ground.phase }, { on := 6, ground := Go.Ground.phase }, { on := 7, ground := Go.Ground.phase }, { on := 8, ground := Go.Ground.phase }, { on := 9, ground := Go.Ground.phase }, { on := 10, ground := Go.Ground.phase }, { on := 11, ground := Go.Ground.phase }, { on := 12, ground := Go.Ground.phase }, { on := 13, ground := Go.Ground.phase }], guard := none }) (v := .pointer (some ⟨bb, 0, none⟩)) rfl (by kernel_rfl) (by kernel_rfl) (by kernel_rfl) (fun _ _ _ h => h) (Or.inl ⟨by kernel_rfl, ?_⟩) hS ?_
          · intro w5 hSw
            clear hSw hS
            go_simp
          simp only [Act.put, List.setIfInBounds_toArray, List.set_cons_zero, List.set_cons_succ]
          refine wpAnyH_take (i := 15) (oi := { dst := some 39, op := Go.Op.fieldAddr 90 (Go.Operand.tmp 38) 0, type := 0, pos := "law.go:87", after := #[{ on := 14, ground := Go.Ground.data }, { on := 0, ground := Go.Ground.phase }, { on := 1, ground := Go.Ground.phase }, { on := 2, ground := Go.Ground.phase }, { on := 3, ground := Go.Ground.phase }, { on := 4, ground := Go.Ground.phase }, { on := 5, ground := Go.Ground.phase }, { on := 6, ground := Go.Ground.phase }, { on := 7, ground := Go.Ground.phase }, { on := 8, ground := Go.Ground.phase }, { on := 9, ground := Go.Ground.phase }, { on := 10, ground := Go.Ground.phase }, { on := 11, ground := Go.Ground.phase }, { on := 12, ground := Go.Ground.phase }, { on := 13, ground := Go.Ground.phase }], guard := none }) (v := .pointer (some ⟨bb, 0, none⟩)) rfl (by kernel_rfl) (by kernel_rfl) (by kernel_rfl) (fun _ _ _ h => h) (Or.inl ⟨by kernel_rfl, ?_⟩) hS ?_
          · intro w5 hSw
            clear hSw hS
            go_simp
          simp only [Act.put, List.setIfInBounds_toArray, List.set_cons_zero, List.set_cons_succ]
          refine wpAnyH_ready (rs := [16]) (by kernel_rfl) (by simp) ?_
          refine AllReadyH.cons (o := { dst := none, op := Go.Op.store 88 (Go.Operand.tmp 39) (Go.Operand.tmp 37), type := 0, pos := "law.go:87", after := #[{ on := 15, ground := Go.Ground.data }, { on := 13, ground := Go.Ground.data }, { on := 13, ground := Go.Ground.chain }, { on := 0, ground := Go.Ground.phase }, { on := 1, ground := Go.Ground.phase }, { on := 2, ground := Go.Ground.phase }, { on := 3, ground := Go.Ground.phase }, { on := 4, ground := Go.Ground.phase }, { on := 5, ground := Go.Ground.phase }, { on := 6, ground := Go.Ground.phase }, { on := 7, ground := Go.Ground.phase }, { on := 8, ground := Go.Ground.phase }, { on := 9, ground := Go.Ground.phase }, { on := 10, ground := Go.Ground.phase }, { on := 11, ground := Go.Ground.phase }, { on := 12, ground := Go.Ground.phase }, { on := 13, ground := Go.Ground.phase }], guard := none }) rfl (fun K hK => ?_) AllReadyH.nil
          rw [if_pos (by kernel_rfl)]
          have hA7 : At W7 bb 90 [.slice ba L.length bc] := HF7.out.at HB1.out (fun e => e.elim (fun e => HNE.out.1 e) (fun e => HNE.out.2 e))
          have cw := hA7.cell (i := 0) rfl
          have tw := hA7.thaw 0
          have hA8 := hA7.set 0 (.slice la2 (L.length + 1) lc2)
          simp only [List.set_cons_zero] at hA8
          have HA8 := Hid.of hA8
          have hg8 := grown_at W7 bb 0 (.slice la2 (L.length + 1) lc2)
          have HF8 := Hid.of (show Fr (fun k => k = bb ∨ (Value.slice va i vc).ownBlock = some k ∨ (Value.slice ba L.length bc).ownBlock = some k) wr (W7.setCell ⟨bb, 0, none⟩ (.slice la2 (L.length + 1) lc2)) from (HF7.out.weak (fun g hg => .inr hg)).by hg8 (fun g hg => .inl (.inl (Option.some.inj hg).symm)))
          have HO8 := Hid.of (World.ownsRow.kept HO7.out hg8 (.inr (own_ne HO7.out hA7 (by decide))))
          have HFY := Hid.of (show Fr (fun k => k = bb ∨ (Value.slice ba L.length bc).ownBlock = some k) W5 (W7.setCell ⟨bb, 0, none⟩ (.slice la2 (L.length + 1) lc2)) from (HFX.out.weak (fun g hg => .inr hg)).by hg8 (fun g hg => .inl (.inl (Option.some.inj hg).symm)))
          go_simp
          clear hA7 cw tw hA8 hg8
          generalize W7.setCell ⟨bb, 0, none⟩ (.slice la2 (L.length + 1) lc2) = W8 at *
          refine hK.out _ _ HF8.out (fun hS2 => ?_)
          clear hK K hS hS2
          refine wpAnyH_done (by kernel_rfl) ?_ _
          go_wp2
          go_end0
          have off : ∀ g t, otag W5 g = some t → t = 5 → ¬ (g = bb ∨ (Value.slice ba L.length bc).ownBlock = some g) := fun g t ht h1 hk => by
            subst h1
            rcases hk with rfl | hk
            · have := (HF5.out.at HB1.out HNE.out.1).tag
              rw [this] at ht; cases ht
            · have := row_tag (HF5.out.own HL1.out (fun g hg hk => HUL.out g hk hg)) hk
              rw [this] at ht; cases ht
          refine ⟨rfl, la2, lc2, .slice va2 (i + 1) vc2, mk, HA8.out, ?_, ?_, ?_, fun g hg => (HN5.out g hg).imp id (fun h => Nat.le_trans HF.out.size h), fun g hg => (HN7.out g hg).imp id (fun h => Nat.le_trans HF.out.size h), (HF.out.weak (fun g hg => .inr (.inl hg))).trans HF8.out (fun x hx => .inl hx)⟩
          · rw [hcl_append]
            exact HO8.out
          · unfold Ow
            rw [List.length_replicate]
            exact HFY.out.own HV5.out (fun g hg => off g _ (row_tag HV5.out hg) rfl)
          · unfold Ow
            rw [List.length_replicate]
            exact HFY.out.own HO5.out (fun g hg => off g _ (row_tag HO5.out hg) rfl)
        · rw [if_pos (by kernel_rfl)]
          obtain ⟨v5, W5, hap, ho5, hg5, hx5, hn5⟩ := app_both (w := W4) 0 47 47 5 i8 (.int .u8 0) 1 1 Try.underlying47 i8a i8b i8c i8d rfl (by decide) (.slice va i vc) i _ (ow_up HV.out HU4.out) ⟨wr.heap.size, 0, none⟩ 1 1 [.int .u8 (mk.toNat : Int)] rfl (fun j u hu => by rw [Addr.add_lit, Nat.zero_add]; exact HA4.out.cell hu) (fun u hu => by obtain rfl := List.mem_singleton.1 hu; rfl) (by simp only [maxLen]; omega) (by omega) (Nat.zero_le _)
          obtain ⟨va2, vc2, rfl⟩ := row_len ho5
          have HF5 := Hid.of (show Fr (fun k => (Value.slice va i vc).ownBlock = some k) wr W5 from ((Fr.refl _ wr).up HU4.out).by hg5 (fun g hg => .inl hg))
          have HO5 := Hid.of (show W5.ownsRow 0 5 1 (.slice va2 (i + 1) vc2) (i + 1) (cb (List.replicate (i + 1) mk)) by rw [List.replicate_succ', cb_append]; exact ho5)
          have HV5 := Hid.of hx5
          have HN5 := Hid.of (show Frs wr (.slice va i vc) (.slice va2 (i + 1) vc2) from fun g hg => hn5.elim (fun h => .inl (by rw [← h]; exact hg)) (fun h => .inr (Nat.le_trans HU4.out.size (h g hg))))
          clear ho5 hg5 hx5 hn5
          refine wp_app (v := .slice va i vc) (y := .slice (some ⟨wr.heap.size, 0, none⟩) 1 1) rfl rfl rfl hap ?_
          simp only [Act.put, List.setIfInBounds_toArray, List.set_cons_zero, List.set_cons_succ]
          refine hK.out _ _ (HF5.out.weak (fun g hg => .inr (.inl hg))) (fun hS2 => ?_)
          clear hK K hS hap
          have hS := hS2
          clear hS2
          refine wpAnyH_take (i := 11) (oi := { dst := some 35, op := Go.Op.build 132 #[(0, Go.Operand.tmp 29), (1, Go.Operand.tmp 33), (2, Go.Operand.tmp 34)], type := 132, pos := "law.go:87", after := #[{ on := 5, ground := Go.Ground.data }, { on := 9, ground := Go.Ground.data }, { on := 10, ground := Go.Ground.data }], guard := none }) (v := .agg #[.slice va i vc, .slice va2 (i + 1) vc2, .int .u8 (mk.toNat : Int)]) rfl (by kernel_rfl) (by kernel_rfl) (by kernel_rfl) (fun _ _ _ h => h) (Or.inl ⟨by kernel_rfl, ?_⟩) hS ?_
          · intro w5 hSw
            clear hSw hS
            go_simp
          simp only [Act.put, List.setIfInBounds_toArray, List.set_cons_zero, List.set_cons_succ]
          refine wpAnyH_ready (rs := [4, 12]) (by kernel_rfl) (by simp) ?_
          refine AllReadyH.cons (o := { dst := some 28, op := Go.Op.load 88 (Go.Operand.tmp 27), type := 88, pos := "law.go:87", after := #[{ on := 3, ground := Go.Ground.data }], guard := none }) rfl (fun K hK => ?_) (AllReadyH.cons (o := { dst := some 36, op := Go.Op.buildSlice 88 1 #[(0, Go.Operand.tmp 35)], type := 88, pos := "law.go:87", after := #[{ on := 11, ground := Go.Ground.data }], guard := none }) rfl (fun K hK => ?_) (AllReadyH.nil))
          · rw [if_pos (by kernel_rfl)]
            have h0 := HCB.out _ (show Fr (fun k => (Value.slice va i vc).ownBlock = some k) wr _ from by first | exact HF6.out | exact HF5.out | exact (Fr.refl _ wr).up HU4.out | exact (Fr.refl _ wr).up (Up.refl wr).drew)
            go_simp
            refine hK.out _ _ hS (fun hS2 => ?_)
            clear hK K hS h0
            have hS := hS2
            clear hS2
            refine wpAnyH_ready (rs := [12]) (by kernel_rfl) (by simp) ?_
            refine AllReadyH.cons (o := { dst := some 36, op := Go.Op.buildSlice 88 1 #[(0, Go.Operand.tmp 35)], type := 88, pos := "law.go:87", after := #[{ on := 11, ground := Go.Ground.data }], guard := none }) rfl (fun K hK => ?_) AllReadyH.nil
            rw [if_pos (by kernel_rfl)]
            go_simp
            have HU6 := Hid.of ((Up.refl W5).alloc (.cells #[.slice va i vc, .slice va2 (i + 1) vc2, .int .u8 (mk.toNat : Int)] 132))
            have HA6 := Hid.of (at_new W5 132 [.slice va i vc, .slice va2 (i + 1) vc2, .int .u8 (mk.toNat : Int)])
            have HS6 := Hid.of (rfl : W5.heap.size = W5.heap.size)
            generalize hbl : W5.heap.size = bl at HA6 ⊢
            generalize W5.alloc (.cells #[.slice va i vc, .slice va2 (i + 1) vc2, .int .u8 (mk.toNat : Int)] 132) = W6 at *
            have HF6 := Hid.of (HF5.out.up HU6.out)
            clear hbl HS6
            refine hK.out _ _ (HF6.out.weak (fun g hg => .inr (.inl hg))) (fun hS2 => ?_)
            clear hK K hS
            have hS := hS2
            clear hS2
            refine wpAnyH_ready (rs := [13]) (by kernel_rfl) (by simp) ?_
            refine AllReadyH.cons (o := { dst := some 37, op := Go.Op.call { callee := Go.Callee.builtin Go.Builtin.append, args := #[Go.Operand.tmp 28, Go.Operand.tmp 36], argTypes := #[88, 88] }, type := 88, pos := "law.go:87", after := #[{ on := 4, ground := Go.Ground.data }, { on := 12, ground := Go.Ground.data }, { on := 9, ground := Go.Ground.chain }], guard := none }) rfl (fun K hK => ?_) AllReadyH.nil
            rw [if_pos (by kernel_rfl)]
            have hl6 := HF6.out.own HL1.out (fun g hg hk => HUL.out g hk hg)
            obtain ⟨v7, W7, hap, ho7, hg7, hf7⟩ := run_append_frsN (P := Try.prog) W6 0 88 88 132 ih (.agg #[.slice none 0 0, .slice none 0 0, .int .u8 0]) 3 56 Try.underlying88 iha ihb ihc ihd rfl (by decide) (.slice ba L.length bc) _ _ hl6 ⟨bl, 0, none⟩ 1 1 [.slice va i vc, .slice va2 (i + 1) vc2, .int .u8 (mk.toNat : Int)] rfl (fun j u hu => by rw [Addr.add_lit, Nat.zero_add]; exact HA6.out.cell hu) (fun u hu => by
              simp only [List.mem_cons, List.not_mem_nil, or_false] at hu
              rcases hu with rfl | rfl | rfl <;> rfl) (by simp only [maxLen]; omega) (by omega) (Nat.zero_le _)
            obtain ⟨la2, lc2, e7, _, _⟩ := row_n ho7
            subst e7
            have HF7 := Hid.of (show Fr (fun k => (Value.slice va i vc).ownBlock = some k ∨ (Value.slice ba L.length bc).ownBlock = some k) wr W7 from (HF6.out.weak (fun g hg => .inl hg)).by hg7 (fun g hg => .inl (.inr hg)))
            have HO7 := Hid.of ho7
            have HN7 := Hid.of (show Frs wr (.slice ba L.length bc) (.slice la2 (L.length + 1) lc2) from fun g hg => (hf7 g hg).imp id (fun h => Nat.le_trans HF6.out.size h))
            have HFX := Hid.of (show Fr (fun k => (Value.slice ba L.length bc).ownBlock = some k) W5 W7 from ((Fr.refl _ W5).up HU6.out).by hg7 (fun g hg => .inl hg))
            clear ho7 hg7 hf7 hl6
            refine wp_app (v := .slice ba L.length bc) (y := .slice (some ⟨bl, 0, none⟩) 1 1) rfl rfl rfl hap ?_
            simp only [Act.put, List.setIfInBounds_toArray, List.set_cons_zero, List.set_cons_succ]
            refine hK.out _ _ (HF7.out.weak (fun g hg => .inr hg)) (fun hS2 => ?_)
            clear hK K hS hap
            have hS := hS2
            clear hS2
            refine wpAnyH_take (i := 14) (oi := { dst := some 38, op := Go.Op.nilCheck (Go.Operand.tmp 24), type := 0, pos := "law.go:87", after := #[{ on := 0, ground := Go.Ground.data }, { on := 0, ground := Go.Ground.phase }, { on := 1, ground := Go.Ground.phase }, { on := 2, ground := Go.Ground.phase }, { on := 3, ground := Go.Ground.phase }, { on := 4, ground := Go.Ground.phase }, { on := 5, ground := Go.Ground.phase }, { on := 6, ground := Go.Ground.phase }, { on := 7, ground := Go.Ground.phase }, { on := 8, ground := Go.Ground.phase }, { on := 9, ground := Go.Ground.phase }, { on := 10, ground := Go.Ground.phase }, { on := 11, ground := Go.Ground.phase }, { on := 12, ground := Go.Ground.phase }, { on := 13, ground := Go.Ground.phase }], guard := none }) (v := .pointer (some ⟨bb, 0, none⟩)) rfl (by kernel_rfl) (by kernel_rfl) (by kernel_rfl) (fun _ _ _ h => h) (Or.inl ⟨by kernel_rfl, ?_⟩) hS ?_
            · intro w5 hSw
              clear hSw hS
              go_simp
            simp only [Act.put, List.setIfInBounds_toArray, List.set_cons_zero, List.set_cons_succ]
            refine wpAnyH_take (i := 15) (oi := { dst := some 39, op := Go.Op.fieldAddr 90 (Go.Operand.tmp 38) 0, type := 0, pos := "law.go:87", after := #[{ on := 14, ground := Go.Ground.data }, { on := 0, ground := Go.Ground.phase }, { on := 1, ground := Go.Ground.phase }, { on := 2, ground := Go.Ground.phase }, { on := 3, ground := Go.Ground.phase }, { on := 4, ground := Go.Ground.phase }, { on := 5, ground := Go.Ground.phase }, { on := 6, ground := Go.Ground.phase }, { on := 7, ground := Go.Ground.phase }, { on := 8, ground := Go.Ground.phase }, { on := 9, ground := Go.Ground.phase }, { on := 10, ground := Go.Ground.phase }, { on := 11, ground := Go.Ground.phase }, { on := 12, ground := Go.Ground.phase }, { on := 13, ground := Go.Ground.phase }], guard := none }) (v := .pointer (some ⟨bb, 0, none⟩)) rfl (by kernel_rfl) (by kernel_rfl) (by kernel_rfl) (fun _ _ _ h => h) (Or.inl ⟨by kernel_rfl, ?_⟩) hS ?_
            · intro w5 hSw
              clear hSw hS
              go_simp
            simp only [Act.put, List.setIfInBounds_toArray, List.set_cons_zero, List.set_cons_succ]
            refine wpAnyH_ready (rs := [16]) (by kernel_rfl) (by simp) ?_
            refine AllReadyH.cons (o := { dst := none, op := Go.Op.store 88 (Go.Operand.tmp 39) (Go.Operand.tmp 37), type := 0, pos := "law.go:87", after := #[{ on := 15, ground := Go.Ground.data }, { on := 13, ground := Go.Ground.data }, { on := 13, ground := Go.Ground.chain }, { on := 0, ground := Go.Ground.phase }, { on := 1, ground := Go.Ground.phase }, { on := 2, ground := Go.Ground.phase }, { on := 3, ground := Go.Ground.phase }, { on := 4, ground := Go.Ground.phase }, { on := 5, ground := Go.Ground.phase }, { on := 6, ground := Go.Ground.phase }, { on := 7, ground := Go.Ground.phase }, { on := 8, ground := Go.Ground.phase }, { on := 9, ground := Go.Ground.phase }, { on := 10, ground := Go.Ground.phase }, { on := 11, ground := Go.Ground.phase }, { on := 12, ground := Go.Ground.phase }, { on := 13, ground := Go.Ground.phase }], guard := none }) rfl (fun K hK => ?_) AllReadyH.nil
            rw [if_pos (by kernel_rfl)]
            have hA7 : At W7 bb 90 [.slice ba L.length bc] := HF7.out.at HB1.out (fun e => e.elim (fun e => HNE.out.1 e) (fun e => HNE.out.2 e))
            have cw := hA7.cell (i := 0) rfl
            have tw := hA7.thaw 0
            have hA8 := hA7.set 0 (.slice la2 (L.length + 1) lc2)
            simp only [List.set_cons_zero] at hA8
            have HA8 := Hid.of hA8
            have hg8 := grown_at W7 bb 0 (.slice la2 (L.length + 1) lc2)
            have HF8 := Hid.of (show Fr (fun k => k = bb ∨ (Value.slice va i vc).ownBlock = some k ∨ (Value.slice ba L.length bc).ownBlock = some k) wr (W7.setCell ⟨bb, 0, none⟩ (.slice la2 (L.length + 1) lc2)) from (HF7.out.weak (fun g hg => .inr hg)).by hg8 (fun g hg => .inl (.inl (Option.some.inj hg).symm)))
            have HO8 := Hid.of (World.ownsRow.kept HO7.out hg8 (.inr (own_ne HO7.out hA7 (by decide))))
            have HFY := Hid.of (show Fr (fun k => k = bb ∨ (Value.slice ba L.length bc).ownBlock = some k) W5 (W7.setCell ⟨bb, 0, none⟩ (.slice la2 (L.length + 1) lc2)) from (HFX.out.weak (fun g hg => .inr hg)).by hg8 (fun g hg => .inl (.inl (Option.some.inj hg).symm)))
            go_simp
            clear hA7 cw tw hA8 hg8
            generalize W7.setCell ⟨bb, 0, none⟩ (.slice la2 (L.length + 1) lc2) = W8 at *
            refine hK.out _ _ HF8.out (fun hS2 => ?_)
            clear hK K hS hS2
            refine wpAnyH_done (by kernel_rfl) ?_ _
            go_wp2
            go_end0
            have off : ∀ g t, otag W5 g = some t → t = 5 → ¬ (g = bb ∨ (Value.slice ba L.length bc).ownBlock = some g) := fun g t ht h1 hk => by
              subst h1
              rcases hk with rfl | hk
              · have := (HF5.out.at HB1.out HNE.out.1).tag
                rw [this] at ht; cases ht
              · have := row_tag (HF5.out.own HL1.out (fun g hg hk => HUL.out g hk hg)) hk
                rw [this] at ht; cases ht
            refine ⟨rfl, la2, lc2, .slice va2 (i + 1) vc2, mk, HA8.out, ?_, ?_, ?_, fun g hg => (HN5.out g hg).imp id (fun h => Nat.le_trans HF.out.size h), fun g hg => (HN7.out g hg).imp id (fun h => Nat.le_trans HF.out.size h), (HF.out.weak (fun g hg => .inr (.inl hg))).trans HF8.out (fun x hx => .inl hx)⟩
            · rw [hcl_append]
              exact HO8.out
            · unfold Ow
              rw [List.length_replicate]
              exact HFY.out.own HV5.out (fun g hg => off g _ (row_tag HV5.out hg) rfl)
            · unfold Ow
              rw [List.length_replicate]
              exact HFY.out.own HO5.out (fun g hg => off g _ (row_tag HO5.out hg) rfl)
          · rw [if_pos (by kernel_rfl)]
            go_simp
            have HU6 := Hid.of ((Up.refl W5).alloc (.cells #[.slice va i vc, .slice va2 (i + 1) vc2, .int .u8 (mk.toNat : Int)] 132))
            have HA6 := Hid.of (at_new W5 132 [.slice va i vc, .slice va2 (i + 1) vc2, .int .u8 (mk.toNat : Int)])
            have HS6 := Hid.of (rfl : W5.heap.size = W5.heap.size)
            generalize hbl : W5.heap.size = bl at HA6 ⊢
            generalize W5.alloc (.cells #[.slice va i vc, .slice va2 (i + 1) vc2, .int .u8 (mk.toNat : Int)] 132) = W6 at *
            have HF6 := Hid.of (HF5.out.up HU6.out)
            clear hbl HS6
            refine hK.out _ _ (HF6.out.weak (fun g hg => .inr (.inl hg))) (fun hS2 => ?_)
            clear hK K hS
            have hS := hS2
            clear hS2
            refine wpAnyH_ready (rs := [4]) (by kernel_rfl) (by simp) ?_
            refine AllReadyH.cons (o := { dst := some 28, op := Go.Op.load 88 (Go.Operand.tmp 27), type := 88, pos := "law.go:87", after := #[{ on := 3, ground := Go.Ground.data }], guard := none }) rfl (fun K hK => ?_) AllReadyH.nil
            rw [if_pos (by kernel_rfl)]
            have h0 := HCB.out _ (show Fr (fun k => (Value.slice va i vc).ownBlock = some k) wr _ from by first | exact HF6.out | exact HF5.out | exact (Fr.refl _ wr).up HU4.out | exact (Fr.refl _ wr).up (Up.refl wr).drew)
            go_simp
            refine hK.out _ _ hS (fun hS2 => ?_)
            clear hK K hS h0
            have hS := hS2
            clear hS2
            refine wpAnyH_ready (rs := [13]) (by kernel_rfl) (by simp) ?_
            refine AllReadyH.cons (o := { dst := some 37, op := Go.Op.call { callee := Go.Callee.builtin Go.Builtin.append, args := #[Go.Operand.tmp 28, Go.Operand.tmp 36], argTypes := #[88, 88] }, type := 88, pos := "law.go:87", after := #[{ on := 4, ground := Go.Ground.data }, { on := 12, ground := Go.Ground.data }, { on := 9, ground := Go.Ground.chain }], guard := none }) rfl (fun K hK => ?_) AllReadyH.nil
            rw [if_pos (by kernel_rfl)]
            have hl6 := HF6.out.own HL1.out (fun g hg hk => HUL.out g hk hg)
            obtain ⟨v7, W7, hap, ho7, hg7, hf7⟩ := run_append_frsN (P := Try.prog) W6 0 88 88 132 ih (.agg #[.slice none 0 0, .slice none 0 0, .int .u8 0]) 3 56 Try.underlying88 iha ihb ihc ihd rfl (by decide) (.slice ba L.length bc) _ _ hl6 ⟨bl, 0, none⟩ 1 1 [.slice va i vc, .slice va2 (i + 1) vc2, .int .u8 (mk.toNat : Int)] rfl (fun j u hu => by rw [Addr.add_lit, Nat.zero_add]; exact HA6.out.cell hu) (fun u hu => by
              simp only [List.mem_cons, List.not_mem_nil, or_false] at hu
              rcases hu with rfl | rfl | rfl <;> rfl) (by simp only [maxLen]; omega) (by omega) (Nat.zero_le _)
            obtain ⟨la2, lc2, e7, _, _⟩ := row_n ho7
            subst e7
            have HF7 := Hid.of (show Fr (fun k => (Value.slice va i vc).ownBlock = some k ∨ (Value.slice ba L.length bc).ownBlock = some k) wr W7 from (HF6.out.weak (fun g hg => .inl hg)).by hg7 (fun g hg => .inl (.inr hg)))
            have HO7 := Hid.of ho7
            have HN7 := Hid.of (show Frs wr (.slice ba L.length bc) (.slice la2 (L.length + 1) lc2) from fun g hg => (hf7 g hg).imp id (fun h => Nat.le_trans HF6.out.size h))
            have HFX := Hid.of (show Fr (fun k => (Value.slice ba L.length bc).ownBlock = some k) W5 W7 from ((Fr.refl _ W5).up HU6.out).by hg7 (fun g hg => .inl hg))
            clear ho7 hg7 hf7 hl6
            refine wp_app (v := .slice ba L.length bc) (y := .slice (some ⟨bl, 0, none⟩) 1 1) rfl rfl rfl hap ?_
            simp only [Act.put, List.setIfInBounds_toArray, List.set_cons_zero, List.set_cons_succ]
            refine hK.out _ _ (HF7.out.weak (fun g hg => .inr hg)) (fun hS2 => ?_)
            clear hK K hS hap
            have hS := hS2
            clear hS2
            refine wpAnyH_take (i := 14) (oi := { dst := some 38, op := Go.Op.nilCheck (Go.Operand.tmp 24), type := 0, pos := "law.go:87", after := #[{ on := 0, ground := Go.Ground.data }, { on := 0, ground := Go.Ground.phase }, { on := 1, ground := Go.Ground.phase }, { on := 2, ground := Go.Ground.phase }, { on := 3, ground := Go.Ground.phase }, { on := 4, ground := Go.Ground.phase }, { on := 5, ground := Go.Ground.phase }, { on := 6, ground := Go.Ground.phase }, { on := 7, ground := Go.Ground.phase }, { on := 8, ground := Go.Ground.phase }, { on := 9, ground := Go.Ground.phase }, { on := 10, ground := Go.Ground.phase }, { on := 11, ground := Go.Ground.phase }, { on := 12, ground := Go.Ground.phase }, { on := 13, ground := Go.Ground.phase }], guard := none }) (v := .pointer (some ⟨bb, 0, none⟩)) rfl (by kernel_rfl) (by kernel_rfl) (by kernel_rfl) (fun _ _ _ h => h) (Or.inl ⟨by kernel_rfl, ?_⟩) hS ?_
            · intro w5 hSw
              clear hSw hS
              go_simp
            simp only [Act.put, List.setIfInBounds_toArray, List.set_cons_zero, List.set_cons_succ]
            refine wpAnyH_take (i := 15) (oi := { dst := some 39, op := Go.Op.fieldAddr 90 (Go.Operand.tmp 38) 0, type := 0, pos := "law.go:87", after := #[{ on := 14, ground := Go.Ground.data }, { on := 0, ground := Go.Ground.phase }, { on := 1, ground := Go.Ground.phase }, { on := 2, ground := Go.Ground.phase }, { on := 3, ground := Go.Ground.phase }, { on := 4, ground := Go.Ground.phase }, { on := 5, ground := Go.Ground.phase }, { on := 6, ground := Go.Ground.phase }, { on := 7, ground := Go.Ground.phase }, { on := 8, ground := Go.Ground.phase }, { on := 9, ground := Go.Ground.phase }, { on := 10, ground := Go.Ground.phase }, { on := 11, ground := Go.Ground.phase }, { on := 12, ground := Go.Ground.phase }, { on := 13, ground := Go.Ground.phase }], guard := none }) (v := .pointer (some ⟨bb, 0, none⟩)) rfl (by kernel_rfl) (by kernel_rfl) (by kernel_rfl) (fun _ _ _ h => h) (Or.inl ⟨by kernel_rfl, ?_⟩) hS ?_
            · intro w5 hSw
              clear hSw hS
              go_simp
            simp only [Act.put, List.setIfInBounds_toArray, List.set_cons_zero, List.set_cons_succ]
            refine wpAnyH_ready (rs := [16]) (by kernel_rfl) (by simp) ?_
            refine AllReadyH.cons (o := { dst := none, op := Go.Op.store 88 (Go.Operand.tmp 39) (Go.Operand.tmp 37), type := 0, pos := "law.go:87", after := #[{ on := 15, ground := Go.Ground.data }, { on := 13, ground := Go.Ground.data }, { on := 13, ground := Go.Ground.chain }, { on := 0, ground := Go.Ground.phase }, { on := 1, ground := Go.Ground.phase }, { on := 2, ground := Go.Ground.phase }, { on := 3, ground := Go.Ground.phase }, { on := 4, ground := Go.Ground.phase }, { on := 5, ground := Go.Ground.phase }, { on := 6, ground := Go.Ground.phase }, { on := 7, ground := Go.Ground.phase }, { on := 8, ground := Go.Ground.phase }, { on := 9, ground := Go.Ground.phase }, { on := 10, ground := Go.Ground.phase }, { on := 11, ground := Go.Ground.phase }, { on := 12, ground := Go.Ground.phase }, { on := 13, ground := Go.Ground.phase }], guard := none }) rfl (fun K hK => ?_) AllReadyH.nil
            rw [if_pos (by kernel_rfl)]
            have hA7 : At W7 bb 90 [.slice ba L.length bc] := HF7.out.at HB1.out (fun e => e.elim (fun e => HNE.out.1 e) (fun e => HNE.out.2 e))
            have cw := hA7.cell (i := 0) rfl
            have tw := hA7.thaw 0
            have hA8 := hA7.set 0 (.slice la2 (L.length + 1) lc2)
            simp only [List.set_cons_zero] at hA8
            have HA8 := Hid.of hA8
            have hg8 := grown_at W7 bb 0 (.slice la2 (L.length + 1) lc2)
            have HF8 := Hid.of (show Fr (fun k => k = bb ∨ (Value.slice va i vc).ownBlock = some k ∨ (Value.slice ba L.length bc).ownBlock = some k) wr (W7.setCell ⟨bb, 0, none⟩ (.slice la2 (L.length + 1) lc2)) from (HF7.out.weak (fun g hg => .inr hg)).by hg8 (fun g hg => .inl (.inl (Option.some.inj hg).symm)))
            have HO8 := Hid.of (World.ownsRow.kept HO7.out hg8 (.inr (own_ne HO7.out hA7 (by decide))))
            have HFY := Hid.of (show Fr (fun k => k = bb ∨ (Value.slice ba L.length bc).ownBlock = some k) W5 (W7.setCell ⟨bb, 0, none⟩ (.slice la2 (L.length + 1) lc2)) from (HFX.out.weak (fun g hg => .inr hg)).by hg8 (fun g hg => .inl (.inl (Option.some.inj hg).symm)))
            go_simp
            clear hA7 cw tw hA8 hg8
            generalize W7.setCell ⟨bb, 0, none⟩ (.slice la2 (L.length + 1) lc2) = W8 at *
            refine hK.out _ _ HF8.out (fun hS2 => ?_)
            clear hK K hS hS2
            refine wpAnyH_done (by kernel_rfl) ?_ _
            go_wp2
            go_end0
            have off : ∀ g t, otag W5 g = some t → t = 5 → ¬ (g = bb ∨ (Value.slice ba L.length bc).ownBlock = some g) := fun g t ht h1 hk => by
              subst h1
              rcases hk with rfl | hk
              · have := (HF5.out.at HB1.out HNE.out.1).tag
                rw [this] at ht; cases ht
              · have := row_tag (HF5.out.own HL1.out (fun g hg hk => HUL.out g hk hg)) hk
                rw [this] at ht; cases ht
            refine ⟨rfl, la2, lc2, .slice va2 (i + 1) vc2, mk, HA8.out, ?_, ?_, ?_, fun g hg => (HN5.out g hg).imp id (fun h => Nat.le_trans HF.out.size h), fun g hg => (HN7.out g hg).imp id (fun h => Nat.le_trans HF.out.size h), (HF.out.weak (fun g hg => .inr (.inl hg))).trans HF8.out (fun x hx => .inl hx)⟩
            · rw [hcl_append]
              exact HO8.out
            · unfold Ow
              rw [List.length_replicate]
              exact HFY.out.own HV5.out (fun g hg => off g _ (row_tag HV5.out hg) rfl)
            · unfold Ow
              rw [List.length_replicate]
              exact HFY.out.own HO5.out (fun g hg => off g _ (row_tag HO5.out hg) rfl)
set_option maxRecDepth 100000 in
set_option maxHeartbeats 4000000 in
theorem kept_walk (w : World) (bb : Nat) (ba : Option Addr) (L : List HE) (bc : Nat) (hB : At w bb 90 [.slice ba L.length bc]) (hL : w.ownsRow 0 132 3 (.slice ba L.length bc) L.length (hcl L)) (hE : ∀ e ∈ L, ∃ p, p ≤ 1099511627776 ∧ Sb w e.1 (List.replicate p e.2.2) ∧ Sb w e.2.1 (List.replicate (p + 1) e.2.2)) (hLn : L.length ≤ 1099511627000) :
    Calls Try.prog 46 #[.pointer (some ⟨bb, 0, none⟩)] w fun e w' => e = .returned (.bool true) ∧ Up w w' := by
  have HB := Hid.of hB
  have HL := Hid.of hL
  have HE' := Hid.of hE
  obtain ⟨n, hn⟩ : ∃ n, L.length = n := ⟨_, rfl⟩
  have HNN := Hid.of (And.intro hn trivial)
  have c0 := hB.cell (i := 0) rfl
  rw [hn] at c0 HB HL hLn
  clear hB hL hE hn
  go_enter Try.func46, Try.ntmps46
  go_wp2
  clear c0
  go_loopw [3, 5, 6] (fun v3 _ _ wr => ∃ i : Nat, v3 = .int .i64 (i : Int) ∧ i ≤ n ∧ Hid (Up w wr)) (fun v3 _ _ _ => n - (intOf v3).toNat)
  case atStart => exact ⟨0, rfl, by omega, Hid.of (Up.refl _)⟩
  case round =>
    obtain ⟨i, rfl, hi, hU⟩ := hrel
    have HU := Hid.of hU.out
    clear hU
    have c0 := (HB.out.up HU.out).cell (i := 0) rfl
    by_cases hlt : i < n
    · have hltz : (i : Int) < (n : Int) := by omega
      have hiw : IntKind.i64.wrap ((i : Int) + 1) = (i : Int) + 1 := by rw [IntKind.wrap_i64]; omega
      have hiL : i < L.length := by rw [HNN.out.1]; exact hlt
      obtain ⟨b, c9, e9, hc9⟩ : ∃ b c9, ba = some ⟨b, 0, none⟩ ∧ n ≤ c9 ∧ c9 = bc := by
        rcases HL.out.2 with ⟨_, h0⟩ | ⟨g, cap, cur, e, _, _, h1, _⟩
        · omega
        · injection e with e1 _ e3
          exact ⟨g, cap, e1, h1, e3.symm⟩
      subst e9
      obtain ⟨hnb, rfl⟩ := hc9
      have hrc := World.ownsRow.cells (ow_up HL.out HU.out) rfl
      obtain ⟨g1, g2, g3⟩ := hcl_get L i hiL
      have k1 := hrc _ _ g1
      have k2 := hrc _ _ g2
      have k3 := hrc _ _ g3
      rw [Addr.add_lit, Nat.zero_add] at k1 k2 k3
      obtain ⟨p, hp, s1, s2⟩ := HE'.out L[i] (List.getElem_mem hiL)
      obtain ⟨⟨v1, v2, mk⟩, he⟩ : ∃ e, L[i] = e := ⟨_, rfl⟩
      rw [he] at k1 k2 k3 s1 s2
      dsimp only at k1 k2 k3 s1 s2
      have s1 := s1.up HU.out
      have s2 := s2.up HU.out
      obtain ⟨a1, d1, e1, hd1, _⟩ := id s1
      obtain ⟨a2, d2, e2, hd2, _⟩ := id s2
      rw [List.length_replicate] at e1 e2 hd1 hd2
      subst e1 e2
      have HS1 := Hid.of (show ∀ j, j < p → ∃ g o, a1 = some ⟨g, o, none⟩ ∧ ∀ w5, Up wr w5 → w5.cell? ⟨g, o + j, none⟩ = some (vb mk) from fun j hj => by
        obtain ⟨g, o, ea, hc, _⟩ := s1.cell (j := j) (by rw [List.length_replicate]; exact hj)
        rw [List.getElem_replicate] at hc
        exact ⟨g, o, ea, fun w5 hu => hu.cell hc⟩)
      have HS2 := Hid.of (show ∀ j, j < p + 1 → ∃ g o, a2 = some ⟨g, o, none⟩ ∧ ∀ w5, Up wr w5 → w5.cell? ⟨g, o + j, none⟩ = some (vb mk) from fun j hj => by
        obtain ⟨g, o, ea, hc, _⟩ := s2.cell (j := j) (by rw [List.length_replicate]; exact hj)
        rw [List.getElem_replicate] at hc
        exact ⟨g, o, ea, fun w5 hu => hu.cell hc⟩)
      have hnz : (n : Int) ≤ (c9 : Int) := by omega
      have HUx := Hid.of ((Up.refl wr).alloc (.cells #[.slice none 0 0, .slice none 0 0, .int .u8 0] 132))
      have HAx := Hid.of (at_new wr 132 [.slice none 0 0, .slice none 0 0, .int .u8 0])
      clear he s1 s2 g1 g2 g3 hrc hnb
      go_wp2_with (with_reducible show wpList _ _ _ ({ dst := _, op := Op.store 132 _ _, type := _, pos := _, after := _, guard := _ } :: _) _ _; refine Shut.out ?_)
      show wpList _ _ _ _ _ _
      clear k1 k2 k3 c0
      generalize wr.alloc (.cells #[.slice none 0 0, .slice none 0 0, .int .u8 0] 132) = W1 at *
      have HBL := Hid.of (Nat.le_refl wr.heap.size)
      generalize hbl : wr.heap.size = bl at HBL HAx ⊢
      have HBE := Hid.of hbl
      clear hbl
      refine wpList_store_at rfl 132 _ _ rfl bl HAx.out [.slice a1 p d1, .slice a2 (p + 1) d2, vb mk] rfl rfl rfl (by kernel_rfl) (by kernel_rfl) ?_
      intro w2 a2' g2
      have HU2 := Hid.of (show Up wr w2 from HUx.out.by g2 (fun x hx => by have := Option.some.inj hx; have := HBE.out; omega))
      have HA2 := Hid.of a2'
      clear a2' g2 HUx HAx
      simp only [Act.put]
      have hd1z : (p : Int) ≤ (d1 : Int) := by omega
      have hd2z : (p : Int) + 1 ≤ (d2 : Int) := by omega
      go_wp2
      go_loopw [5] (fun v5 wq => ∃ j : Nat, v5 = .int .i64 (j : Int) ∧ j ≤ p ∧ Hid (Up w2 wq)) (fun v5 _ => p - (intOf v5).toNat)
      case atStart => exact ⟨0, rfl, by omega, Hid.of (Up.refl _)⟩
      case round =>
        obtain ⟨j, rfl, hj, hQ⟩ := hrel
        have HQ := Hid.of hQ.out
        clear hQ
        have y0 := (HA2.out.up HQ.out).cell (i := 0) rfl
        have y1 := (HA2.out.up HQ.out).cell (i := 1) rfl
        have y2 := (HA2.out.up HQ.out).cell (i := 2) rfl
        by_cases hlt2 : j < p
        · have hltz2 : (j : Int) < (p : Int) := by omega
          have hjw : IntKind.i64.wrap ((j : Int) + 1) = (j : Int) + 1 := by rw [IntKind.wrap_i64]; omega
          obtain ⟨g, o, rfl, hcs⟩ := HS1.out j hlt2
          have HCS := Hid.of hcs
          have HYA := Hid.of (HA2.out.up HQ.out)
          clear hcs
          go_wp2
          refine wp_region_held_drew (S := fun w2 => Up wr w2) (by kernel_rfl) ((Up.refl wr).drew) (fun hS => ?_)
          refine wpAnyH_take (i := 0) (oi := { dst := some 30, op := Go.Op.fieldAddr 132 (Go.Operand.tmp 4) 0, type := 0, pos := "law.go:95", after := #[], guard := none }) (v := .pointer (some ⟨bl, 0, none⟩)) rfl (by kernel_rfl) (by kernel_rfl) (by kernel_rfl) (fun _ _ _ h => h) (Or.inl ⟨by kernel_rfl, ?_⟩) hS ?_
          · intro w5 hSw
            clear hSw hS
            go_simp
          simp only [Act.put, List.setIfInBounds_toArray, List.set_cons_zero, List.set_cons_succ]
          refine wpAnyH_take (i := 1) (oi := { dst := some 31, op := Go.Op.load 47 (Go.Operand.tmp 30), type := 47, pos := "law.go:95", after := #[{ on := 0, ground := Go.Ground.data }], guard := none }) (v := .slice (some ⟨g, o, none⟩) p d1) rfl (by kernel_rfl) (by kernel_rfl) (by kernel_rfl) (fun _ _ _ h => h) (Or.inl ⟨by kernel_rfl, ?_⟩) hS ?_
          · intro w5 hSw
            have h0 := (HYA.out.up hSw).cell (i := 0) rfl
            clear hSw hS
            go_simp
          simp only [Act.put, List.setIfInBounds_toArray, List.set_cons_zero, List.set_cons_succ]
          refine wpAnyH_take (i := 2) (oi := { dst := some 32, op := Go.Op.move (Go.Operand.tmp 5), type := 3, pos := "law.go:95", after := #[], guard := none }) (v := .int .i64 (j : Int)) rfl (by kernel_rfl) (by kernel_rfl) (by kernel_rfl) (fun _ _ _ h => h) (Or.inl ⟨by kernel_rfl, ?_⟩) hS ?_
          · intro w5 hSw
            clear hSw hS
            go_simp
          simp only [Act.put, List.setIfInBounds_toArray, List.set_cons_zero, List.set_cons_succ]
          refine wpAnyH_take (i := 3) (oi := { dst := some 33, op := Go.Op.indexAddr 47 (Go.Operand.tmp 31) (Go.Operand.tmp 32), type := 0, pos := "law.go:95", after := #[{ on := 1, ground := Go.Ground.data }, { on := 2, ground := Go.Ground.data }], guard := none }) (v := .pointer (some ⟨g, o + j, none⟩)) rfl (by kernel_rfl) (by kernel_rfl) (by kernel_rfl) (fun _ _ _ h => h) (Or.inl ⟨by kernel_rfl, ?_⟩) hS ?_
          · intro w5 hSw
            clear hSw hS
            go_simp
          simp only [Act.put, List.setIfInBounds_toArray, List.set_cons_zero, List.set_cons_succ]
          refine wpAnyH_take (i := 4) (oi := { dst := some 34, op := Go.Op.load 5 (Go.Operand.tmp 33), type := 5, pos := "law.go:95", after := #[{ on := 3, ground := Go.Ground.data }], guard := none }) (v := .int .u8 (mk.toNat : Int)) rfl (by kernel_rfl) (by kernel_rfl) (by kernel_rfl) (fun _ _ _ h => h) (Or.inl ⟨by kernel_rfl, ?_⟩) hS ?_
          · intro w5 hSw
            have h0 := HCS.out w5 (HU2.out.trans (HQ.out.trans hSw))
            clear hSw hS
            go_simp
          simp only [Act.put, List.setIfInBounds_toArray, List.set_cons_zero, List.set_cons_succ]
          refine wpAnyH_take (i := 5) (oi := { dst := some 35, op := Go.Op.fieldAddr 132 (Go.Operand.tmp 4) 2, type := 0, pos := "law.go:95", after := #[], guard := none }) (v := .pointer (some ⟨bl, 2, none⟩)) rfl (by kernel_rfl) (by kernel_rfl) (by kernel_rfl) (fun _ _ _ h => h) (Or.inl ⟨by kernel_rfl, ?_⟩) hS ?_
          · intro w5 hSw
            clear hSw hS
            go_simp
          simp only [Act.put, List.setIfInBounds_toArray, List.set_cons_zero, List.set_cons_succ]
          refine wpAnyH_take (i := 6) (oi := { dst := some 36, op := Go.Op.load 5 (Go.Operand.tmp 35), type := 5, pos := "law.go:95", after := #[{ on := 5, ground := Go.Ground.data }], guard := none }) (v := .int .u8 (mk.toNat : Int)) rfl (by kernel_rfl) (by kernel_rfl) (by kernel_rfl) (fun _ _ _ h => h) (Or.inl ⟨by kernel_rfl, ?_⟩) hS ?_
          · intro w5 hSw
            have h0 := (HYA.out.up hSw).cell (i := 2) rfl
            clear hSw hS
            go_simp
          simp only [Act.put, List.setIfInBounds_toArray, List.set_cons_zero, List.set_cons_succ]
          refine wpAnyH_take (i := 7) (oi := { dst := some 37, op := Go.Op.binOp Go.BinOp.neq 5 (Go.Operand.tmp 34) (Go.Operand.tmp 36) 5, type := 4, pos := "law.go:95", after := #[{ on := 4, ground := Go.Ground.data }, { on := 6, ground := Go.Ground.data }], guard := none }) (v := .bool false) rfl (by kernel_rfl) (by kernel_rfl) (by kernel_rfl) (fun _ _ _ h => h) (Or.inl ⟨by kernel_rfl, ?_⟩) hS ?_
          · intro w5 hSw
            clear hSw hS
            go_simp
          simp only [Act.put, List.setIfInBounds_toArray, List.set_cons_zero, List.set_cons_succ]
          refine wpAnyH_done (by kernel_rfl) ?_ _
          go_wp2
          go_roundw
          case rel => exact ⟨j + 1, by simp, by omega, Hid.of HQ.out.drew⟩
          case measure => simp [intOf]; omega
        · have hltz2 : ¬ (j : Int) < (p : Int) := by omega
          obtain rfl : j = p := by omega
          go_wp2
          clear y0 y1 y2
          have HQ0 := Hid.of HQ.out
          go_loopw [6] (fun v6 wq => ∃ q : Nat, v6 = .int .i64 (q : Int) ∧ q ≤ j + 1 ∧ Hid (Up w2 wq)) (fun v6 _ => j + 1 - (intOf v6).toNat)
          case atStart => exact ⟨0, rfl, by omega, HQ0⟩
          case round =>
            clear HQ HQ0
            obtain ⟨q, rfl, hq, hQ⟩ := hrel
            have HQ := Hid.of hQ.out
            clear hQ
            have y0 := (HA2.out.up HQ.out).cell (i := 0) rfl
            have y1 := (HA2.out.up HQ.out).cell (i := 1) rfl
            have y2 := (HA2.out.up HQ.out).cell (i := 2) rfl
            by_cases hlt3 : q < j + 1
            · have hltz3 : (q : Int) < (j : Int) + 1 := by omega
              have hqw : IntKind.i64.wrap ((q : Int) + 1) = (q : Int) + 1 := by rw [IntKind.wrap_i64]; omega
              obtain ⟨g, o, rfl, hcs⟩ := HS2.out q hlt3
              have HCS := Hid.of hcs
              have HYA := Hid.of (HA2.out.up HQ.out)
              clear hcs
              go_wp2
              refine wp_region_held_drew (S := fun w2 => Up wr w2) (by kernel_rfl) ((Up.refl wr).drew) (fun hS => ?_)
              refine wpAnyH_take (i := 0) (oi := { dst := some 45, op := Go.Op.fieldAddr 132 (Go.Operand.tmp 4) 1, type := 0, pos := "law.go:100", after := #[], guard := none }) (v := .pointer (some ⟨bl, 1, none⟩)) rfl (by kernel_rfl) (by kernel_rfl) (by kernel_rfl) (fun _ _ _ h => h) (Or.inl ⟨by kernel_rfl, ?_⟩) hS ?_
              · intro w5 hSw
                clear hSw hS
                go_simp
              simp only [Act.put, List.setIfInBounds_toArray, List.set_cons_zero, List.set_cons_succ]
              refine wpAnyH_take (i := 1) (oi := { dst := some 46, op := Go.Op.load 47 (Go.Operand.tmp 45), type := 47, pos := "law.go:100", after := #[{ on := 0, ground := Go.Ground.data }], guard := none }) (v := .slice (some ⟨g, o, none⟩) (j + 1) d2) rfl (by kernel_rfl) (by kernel_rfl) (by kernel_rfl) (fun _ _ _ h => h) (Or.inl ⟨by kernel_rfl, ?_⟩) hS ?_
              · intro w5 hSw
                have h0 := (HYA.out.up hSw).cell (i := 1) rfl
                clear hSw hS
                go_simp
              simp only [Act.put, List.setIfInBounds_toArray, List.set_cons_zero, List.set_cons_succ]
              refine wpAnyH_take (i := 2) (oi := { dst := some 47, op := Go.Op.move (Go.Operand.tmp 6), type := 3, pos := "law.go:100", after := #[], guard := none }) (v := .int .i64 (q : Int)) rfl (by kernel_rfl) (by kernel_rfl) (by kernel_rfl) (fun _ _ _ h => h) (Or.inl ⟨by kernel_rfl, ?_⟩) hS ?_
              · intro w5 hSw
                clear hSw hS
                go_simp
              simp only [Act.put, List.setIfInBounds_toArray, List.set_cons_zero, List.set_cons_succ]
              refine wpAnyH_take (i := 3) (oi := { dst := some 48, op := Go.Op.indexAddr 47 (Go.Operand.tmp 46) (Go.Operand.tmp 47), type := 0, pos := "law.go:100", after := #[{ on := 1, ground := Go.Ground.data }, { on := 2, ground := Go.Ground.data }], guard := none }) (v := .pointer (some ⟨g, o + q, none⟩)) rfl (by kernel_rfl) (by kernel_rfl) (by kernel_rfl) (fun _ _ _ h => h) (Or.inl ⟨by kernel_rfl, ?_⟩) hS ?_
              · intro w5 hSw
                clear hSw hS
                go_simp
              simp only [Act.put, List.setIfInBounds_toArray, List.set_cons_zero, List.set_cons_succ]
              refine wpAnyH_take (i := 4) (oi := { dst := some 49, op := Go.Op.load 5 (Go.Operand.tmp 48), type := 5, pos := "law.go:100", after := #[{ on := 3, ground := Go.Ground.data }], guard := none }) (v := .int .u8 (mk.toNat : Int)) rfl (by kernel_rfl) (by kernel_rfl) (by kernel_rfl) (fun _ _ _ h => h) (Or.inl ⟨by kernel_rfl, ?_⟩) hS ?_
              · intro w5 hSw
                have h0 := HCS.out w5 (HU2.out.trans (HQ.out.trans hSw))
                clear hSw hS
                go_simp
              simp only [Act.put, List.setIfInBounds_toArray, List.set_cons_zero, List.set_cons_succ]
              refine wpAnyH_take (i := 5) (oi := { dst := some 50, op := Go.Op.fieldAddr 132 (Go.Operand.tmp 4) 2, type := 0, pos := "law.go:100", after := #[], guard := none }) (v := .pointer (some ⟨bl, 2, none⟩)) rfl (by kernel_rfl) (by kernel_rfl) (by kernel_rfl) (fun _ _ _ h => h) (Or.inl ⟨by kernel_rfl, ?_⟩) hS ?_
              · intro w5 hSw
                clear hSw hS
                go_simp
              simp only [Act.put, List.setIfInBounds_toArray, List.set_cons_zero, List.set_cons_succ]
              refine wpAnyH_take (i := 6) (oi := { dst := some 51, op := Go.Op.load 5 (Go.Operand.tmp 50), type := 5, pos := "law.go:100", after := #[{ on := 5, ground := Go.Ground.data }], guard := none }) (v := .int .u8 (mk.toNat : Int)) rfl (by kernel_rfl) (by kernel_rfl) (by kernel_rfl) (fun _ _ _ h => h) (Or.inl ⟨by kernel_rfl, ?_⟩) hS ?_
              · intro w5 hSw
                have h0 := (HYA.out.up hSw).cell (i := 2) rfl
                clear hSw hS
                go_simp
              simp only [Act.put, List.setIfInBounds_toArray, List.set_cons_zero, List.set_cons_succ]
              refine wpAnyH_take (i := 7) (oi := { dst := some 52, op := Go.Op.binOp Go.BinOp.neq 5 (Go.Operand.tmp 49) (Go.Operand.tmp 51) 5, type := 4, pos := "law.go:100", after := #[{ on := 4, ground := Go.Ground.data }, { on := 6, ground := Go.Ground.data }], guard := none }) (v := .bool false) rfl (by kernel_rfl) (by kernel_rfl) (by kernel_rfl) (fun _ _ _ h => h) (Or.inl ⟨by kernel_rfl, ?_⟩) hS ?_
              · intro w5 hSw
                clear hSw hS
                go_simp
              simp only [Act.put, List.setIfInBounds_toArray, List.set_cons_zero, List.set_cons_succ]
              refine wpAnyH_done (by kernel_rfl) ?_ _
              go_wp2
              go_roundw
              case rel => exact ⟨q + 1, by simp, by omega, Hid.of HQ.out.drew⟩
              case measure => simp [intOf]; omega
            · have hltz3 : ¬ (q : Int) < (j : Int) + 1 := by omega
              go_wp2
              go_roundw
              case rel => exact ⟨i + 1, by simp, by omega, Hid.of (HU.out.trans (HU2.out.trans HQ.out))⟩
              case measure => simp [intOf]; omega
    · have hltz : ¬ (i : Int) < (n : Int) := by omega
      go_wp2
      go_ret
      exact ⟨rfl, HU.out⟩
end Go.Proofs.Ytdlfkdehfenemaa
namespace Go.Proofs.Ytdlfkdehfenemaa
open Go.RowKit Go.Conc TextNum
/-! ### no message is longer than what may be sent -/
structure ML (A : AN) : Prop where
  ls : ∀ (i : Nat) x, A.ls[i]? = some x → ∀ d ∈ x.1, d.length ≤ 1048576
  pd : ∀ p ∈ A.pd, p.2.2.length ≤ 1048576
theorem ML.modify {A : AN} (h : ML A) (i : Nat) (f : List (List UInt8) × Bool → List (List UInt8) × Bool) (hf : ∀ x, (∀ d ∈ x.1, d.length ≤ 1048576) → ∀ d ∈ (f x).1, d.length ≤ 1048576) : ML { A with ls := A.ls.modify i f } := by
  refine ⟨fun j x hx => ?_, h.pd⟩
  have hx' : (A.ls.modify i f)[j]? = some x := hx
  rw [List.getElem?_modify] at hx'
  cases hj : A.ls[j]? with
  | none => rw [hj] at hx'; cases hx'
  | some y =>
    rw [hj] at hx'
    have e : (if i = j then f y else y) = x := by simpa using hx'
    by_cases hij : i = j
    · rw [if_pos hij] at e
      rw [← e]
      exact hf y (h.ls j y hj)
    · rw [if_neg hij] at e
      rw [← e]
      exact h.ls j y hj
theorem ML.put {A : AN} (h : ML A) (i : Nat) {d : List UInt8} (hd : d.length ≤ 1048576) : ML (putA A i d) := h.modify i _ fun x hx y hy => by
  unfold comeA at hy
  split at hy
  · rcases List.mem_append.1 hy with hy | hy
    · exact hx y hy
    · obtain rfl := List.mem_singleton.1 hy
      exact hd
  · exact hx y hy
theorem ML.post {A : AN} (h : ML A) (i : Nat) {d : List UInt8} (n : Nat) (hd : d.length ≤ 1048576) : ML (postA A i d n) := by
  unfold postA
  split
  · exact h.put i hd
  · refine ⟨h.ls, fun p hp => ?_⟩
    rcases List.mem_append.1 (show p ∈ A.pd ++ [(A.now + n, i, d)] from hp) with hp | hp
    · exact h.pd p hp
    · obtain rfl := List.mem_singleton.1 hp
      exact hd
theorem ML.send {A : AN} (h : ML A) (i : Nat) {d : List UInt8} (f : Int × Int) (hd : d.length ≤ 1048576) : ML (sendA A i d f) := by
  unfold sendA
  split
  · exact h.post i 0 hd
  · split
    · exact h
    · split
      · exact (h.post i 0 hd).post i _ hd
      · split
        · exact h.post i _ hd
        · split
          · exact h.post i 0 (by rw [List.length_take]; omega)
          · split
            · exact h.post i 0 (by rw [spl_len]; exact hd)
            · exact h
theorem ML.Send {A : AN} (h : ML A) (i : Nat) {d : List UInt8} (hd : d.length ≤ 1048576) : ML (SendA A i d) := by
  have hn : ML (nextA A).2 := by
    unfold nextA
    split
    · exact h
    · exact ⟨h.ls, h.pd⟩
  exact hn.send i _ hd
theorem ML.arr : ∀ (ps : List (Nat × Nat × List UInt8)) {A : AN}, ML A → (∀ p ∈ ps, p.2.2.length ≤ 1048576) → ML (arrA A ps)
  | [], _, h, _ => h
  | p :: ps, _, h, hp => ML.arr ps (h.put p.2.1 (hp p List.mem_cons_self)) (fun q hq => hp q (List.mem_cons_of_mem _ hq))
theorem ML.tick {A : AN} (h : ML A) : ML (tickA A) := by
  have h0 : ML { A with now := A.now + 1 } := ⟨h.ls, h.pd⟩
  have h1 := ML.arr (A.pd.filter fun p => p.1 == A.now + 1) h0 (fun p hp => h.pd p (List.mem_filter.1 hp).1)
  exact ⟨h1.ls, fun p hp => h.pd p (List.mem_filter.1 (show p ∈ A.pd.filter fun p => p.1 != A.now + 1 from hp)).1⟩
theorem ML.it {A : AN} (h : ML A) : ∀ n, ML (itA n A)
  | 0 => h
  | n + 1 => (h.it n).tick
theorem ML.pop {A : AN} (h : ML A) (i : Nat) : ML (popA A i) := h.modify i _ fun _ hx y hy => hx y (List.mem_of_mem_tail hy)
theorem ML.first {A : AN} (h : ML A) (i : Nat) : (firstA A i).length ≤ 1048576 := by
  unfold firstA
  split
  · rename_i x hx
    cases hl : x.1 with
    | nil => simp
    | cons d r =>
      have := h.ls i x hx d (by rw [hl]; exact List.mem_cons_self)
      simpa using this
  · simp
theorem ML.aw (is : List Nat) : ∀ (n : Nat) {A : AN}, ML A → ML (awA n A is).2 ∧ (awA n A is).1.2.1.length ≤ 1048576 := by
  intro n
  induction n with
  | zero =>
    intro A h
    simp only [awA]
    split
    · exact ⟨h.pop _, h.first _⟩
    · split
      · exact ⟨h, by simp⟩
      · exact ⟨h, by simp⟩
  | succ n ih =>
    intro A h
    simp only [awA]
    split
    · exact ⟨h.pop _, h.first _⟩
    · split
      · exact ⟨h, by simp⟩
      · exact ih h.tick
theorem ML.sndR {A : AN} (h : ML A) (z : Int) (d : List UInt8) : ML (sndR A z d) := by
  unfold Go.Proofs.Ytdlfkdehfenemaa.sndR
  split
  · rename_i h0
    refine h.Send _ ?_
    unfold sndE at h0
    split at h0
    · split at h0
      · cases h0
      · split at h0
        · cases h0
        · omega
    · cases h0
  · exact h
theorem ML.wt {A : AN} (h : ML A) (z t : Int) : ML (wtR A z t) ∧ (wtE A z t).1.length ≤ 1048576 := by
  unfold wtR wtE
  split
  · split
    · exact ML.aw _ _ h
    · exact ⟨h, by simp⟩
  · exact ⟨h, by simp⟩
theorem ML.an {A : AN} (h : ML A) (zs : List Int) (t : Int) : ML (anR A zs t) ∧ (anV A zs t).2.1.length ≤ 1048576 := by
  unfold anR anV
  split
  · exact ML.aw _ _ h
  · exact ⟨h, by simp⟩
theorem ML.pa {A : AN} (h : ML A) (t : Int) : ML (paR A t) := by
  unfold paR
  split
  · exact h.it _
  · exact h
theorem ML.cl {A : AN} (h : ML A) (z : Int) : ML (clR A z) := by
  unfold clR
  split
  · exact h.modify _ _ fun _ hx => hx
  · exact h
/-! ### how the time goes on -/
theorem sndR_now (A : AN) (z : Int) (d : List UInt8) : (sndR A z d).now = A.now := by
  unfold sndR
  split
  · exact SendA_now _ _ _
  · rfl
theorem awA_now (is : List Nat) : ∀ (n : Nat) (A : AN), (awA n A is).2.now ≤ A.now + n := by
  intro n
  induction n with
  | zero =>
    intro A
    simp only [awA]
    split
    · exact Nat.le_refl _
    · split <;> exact Nat.le_refl _
  | succ n ih =>
    intro A
    simp only [awA]
    split
    · exact Nat.le_add_right _ _
    · split
      · exact Nat.le_add_right _ _
      · refine Nat.le_trans (ih (tickA A)) ?_
        rw [tick_reach, reachA_now]
        omega
theorem wtR_now (A : AN) (z t : Int) : (wtR A z t).now ≤ A.now + 65536 := by
  unfold wtR
  split
  · split
    · rename_i h
      unfold okT at h
      simp only [Bool.and_eq_true, decide_eq_true_eq] at h
      have := awA_now [z.toNat] t.toNat A
      omega
    · omega
  · omega
theorem anR_now (A : AN) (zs : List Int) (t : Int) : (anR A zs t).now ≤ A.now + 65536 := by
  unfold anR
  split
  · rename_i h
    obtain ⟨_, _, _, o4, o5, _⟩ := anE_ok h
    have := awA_now (zs.map Int.toNat) t.toNat A
    omega
  · omega
theorem paR_now (A : AN) (t : Int) : (paR A t).now ≤ A.now + 65536 := by
  unfold paR
  split
  · rename_i h
    unfold okT at h
    simp only [Bool.and_eq_true, decide_eq_true_eq] at h
    rw [itA_now]
    omega
  · omega
theorem clR_now (A : AN) (z : Int) : (clR A z).now = A.now := by
  unfold clR
  split <;> rfl
/-! ### whose block it is -/
def rl (ℓ : Nat → Nat) (n c : Nat) : Nat → Nat := fun x => if n ≤ x then c else ℓ x
theorem rl_lo {ℓ : Nat → Nat} {n c x : Nat} (h : x < n) : rl ℓ n c x = ℓ x := by unfold rl; rw [if_neg (by omega)]
theorem rl_hi {ℓ : Nat → Nat} {n c x : Nat} (h : n ≤ x) : rl ℓ n c x = c := by unfold rl; rw [if_pos h]
structure SI (w : World) (ℓ : Nat → Nat) (k : Nat) (S : NS) : Prop where
  ok : NOk w S
  so : SOk S
  md : MD S
  lb : ∀ x, own S x ∨ rds S x → ℓ x = 2 * k
structure QI (w : World) (ℓ : Nat → Nat) (k : Nat) (R : RS) : Prop where
  ok : ROk w R
  lb : ∀ x, rown R x ∨ rrd R x → ℓ x = 2 * k + 1
theorem SI.fr {w w' : World} {ℓ : Nat → Nat} {k : Nat} {S : NS} {T : Nat → Prop} (h : SI w ℓ k S) (f : Fr T w w') (hT : ∀ x, T x → x < w.heap.size → ℓ x ≠ 2 * k) : SI w' ℓ k S :=
  ⟨h.ok.fr f (fun g hg ht => hT g ht (h.ok.lt hg) (h.lb g (.inl hg))) (fun g hg ht => hT g ht (h.ok.ltr hg) (h.lb g (.inr hg))), h.so, h.md, h.lb⟩
theorem SI.up {w w' : World} {ℓ : Nat → Nat} {k : Nat} {S : NS} (h : SI w ℓ k S) (u : Up w w') : SI w' ℓ k S := h.fr (fr_of_up (fun _ => False) u) (fun _ h => h.elim)
theorem SI.to {w : World} {ℓ ℓ' : Nat → Nat} {k : Nat} {S : NS} (h : SI w ℓ k S) (he : ∀ x, x < w.heap.size → ℓ x = 2 * k → own S x ∨ rds S x → ℓ' x = 2 * k) : SI w ℓ' k S :=
  ⟨h.ok, h.so, h.md, fun x hx => he x (hx.elim h.ok.lt h.ok.ltr) (h.lb x hx) hx⟩
theorem SI.rl {w : World} {ℓ : Nat → Nat} {k c : Nat} {S : NS} (h : SI w ℓ k S) : SI w (rl ℓ w.heap.size c) k S := h.to fun x hx e _ => by rw [rl_lo hx]; exact e
theorem SI.step {w w' : World} {ℓ : Nat → Nat} {k j : Nat} {S S' : NS} {A : AN} (h : SI w ℓ k S) (s : Stp w.heap.size j w w' S S' A) : SI w' (Go.Proofs.Ytdlfkdehfenemaa.rl ℓ w.heap.size (2 * k)) k S' := by
  refine ⟨s.ok, s.so, s.ap h.md, fun x hx => ?_⟩
  have h1 : (own S x ∨ rds S x) ∨ w.heap.size ≤ x := by
    rcases hx with hx | hx
    · exact (s.no x hx).imp .inl id
    · exact (s.nr x hx).imp .inr id
  rcases h1 with h1 | h1
  · rw [rl_lo (h1.elim h.ok.lt h.ok.ltr)]
    exact h.lb x h1
  · exact rl_hi h1
theorem QI.fr {w w' : World} {ℓ : Nat → Nat} {k : Nat} {R : RS} {T : Nat → Prop} (h : QI w ℓ k R) (f : Fr T w w') (hT : ∀ x, T x → x < w.heap.size → ℓ x ≠ 2 * k + 1) : QI w' ℓ k R :=
  ⟨h.ok.fr f (fun g hg ht => hT g ht (h.ok.lt hg) (h.lb g (.inl hg))) (fun g hg ht => hT g ht (h.ok.ltr hg) (h.lb g (.inr hg))), h.lb⟩
theorem QI.up {w w' : World} {ℓ : Nat → Nat} {k : Nat} {R : RS} (h : QI w ℓ k R) (u : Up w w') : QI w' ℓ k R := h.fr (fr_of_up (fun _ => False) u) (fun _ h => h.elim)
theorem QI.to {w : World} {ℓ ℓ' : Nat → Nat} {k : Nat} {R : RS} (h : QI w ℓ k R) (he : ∀ x, x < w.heap.size → ℓ x = 2 * k + 1 → ℓ' x = 2 * k + 1) : QI w ℓ' k R :=
  ⟨h.ok, fun x hx => he x (hx.elim h.ok.lt h.ok.ltr) (h.lb x hx)⟩
theorem QI.rl {w : World} {ℓ : Nat → Nat} {k c : Nat} {R : RS} (h : QI w ℓ k R) : QI w (rl ℓ w.heap.size c) k R := h.to fun x hx e => by rw [rl_lo hx]; exact e
theorem QI.step {w w' : World} {ℓ : Nat → Nat} {k : Nat} {R R' : RS} {A : AN} (h : QI w ℓ k R) (s : RStp w.heap.size w w' R R' A) : QI w' (Go.Proofs.Ytdlfkdehfenemaa.rl ℓ w.heap.size (2 * k + 1)) k R' := by
  refine ⟨s.ok, fun x hx => ?_⟩
  have h1 : (rown R x ∨ rrd R x) ∨ w.heap.size ≤ x := by
    rcases hx with hx | hx
    · exact (s.no x hx).imp .inl id
    · exact (s.nr x hx).imp .inr id
  rcases h1 with h1 | h1
  · rw [rl_lo (h1.elim h.ok.lt h.ok.ltr)]
    exact h.lb x h1
  · exact rl_hi h1
/-- the book, its list, what it holds -/
structure BI (w : World) (ℓ : Nat → Nat) (bb : Nat) (L : List HE) (ba : Option Addr) (bc : Nat) : Prop where
  bx : At w bb 90 [.slice ba L.length bc]
  ro : w.ownsRow 0 132 3 (.slice ba L.length bc) L.length (hcl L)
  en : ∀ e ∈ L, ∃ p, p ≤ 1099511627776 ∧ Ow w 0 e.1 (List.replicate p e.2.2) ∧ Ow w 0 e.2.1 (List.replicate (p + 1) e.2.2)
  lb : ℓ bb = 4
  lr : ∀ x, (Value.slice ba L.length bc).ownBlock = some x → ℓ x = 4
  le : ∀ e ∈ L, ∀ x, e.1.ownBlock = some x ∨ e.2.1.ownBlock = some x → ℓ x = 4
theorem BI.fr {w w' : World} {ℓ : Nat → Nat} {bb : Nat} {L : List HE} {ba : Option Addr} {bc : Nat} {T : Nat → Prop} (h : BI w ℓ bb L ba bc) (f : Fr T w w') (hT : ∀ x, T x → x < w.heap.size → ℓ x ≠ 4) : BI w' ℓ bb L ba bc := by
  refine ⟨f.at h.bx (fun ht => hT _ ht (lt_of_at h.bx) h.lb), f.own h.ro (fun g hg ht => hT g ht (World.ownsRow.lt h.ro g hg).2 (h.lr g hg)), fun e he => ?_, h.lb, h.lr, h.le⟩
  obtain ⟨p, hp, h1, h2⟩ := h.en e he
  exact ⟨p, hp, f.own h1 (fun g hg ht => hT g ht (World.ownsRow.lt h1 g hg).2 (h.le e he g (.inl hg))), f.own h2 (fun g hg ht => hT g ht (World.ownsRow.lt h2 g hg).2 (h.le e he g (.inr hg)))⟩
theorem BI.to {w : World} {ℓ ℓ' : Nat → Nat} {bb : Nat} {L : List HE} {ba : Option Addr} {bc : Nat} (h : BI w ℓ bb L ba bc) (he : ∀ x, x < w.heap.size → ℓ x = 4 → ℓ' x = 4) : BI w ℓ' bb L ba bc := by
  refine ⟨h.bx, h.ro, h.en, he _ (lt_of_at h.bx) h.lb, fun x hx => he x (World.ownsRow.lt h.ro x hx).2 (h.lr x hx), fun e hm x hx => ?_⟩
  obtain ⟨p, hp, h1, h2⟩ := h.en e hm
  refine he x ?_ (h.le e hm x hx)
  rcases hx with hx | hx
  · exact (World.ownsRow.lt h1 x hx).2
  · exact (World.ownsRow.lt h2 x hx).2
/-- one of the two nets, on both sides -/
def NT (w : World) (ℓ : Nat → Nat) (k M : Nat) (a r : Option Addr) (on : Bool) : Prop :=
  on = false ∨ (on = true ∧ ∃ S R, a = some ⟨S.nb, 0, none⟩ ∧ r = some ⟨R.nb, 0, none⟩ ∧ SI w ℓ k S ∧ QI w ℓ k R ∧ abs S = absR R ∧ ML (abs S) ∧ S.mn ≤ M ∧ S.now ≤ 65536 * M ∧ R.st ≤ M)
theorem NT.fr {w w' : World} {ℓ : Nat → Nat} {k M : Nat} {a r : Option Addr} {on : Bool} {T : Nat → Prop} (h : NT w ℓ k M a r on) (f : Fr T w w') (hT : ∀ x, T x → x < w.heap.size → ℓ x ≠ 2 * k ∧ ℓ x ≠ 2 * k + 1) : NT w' ℓ k M a r on := by
  rcases h with h | ⟨h, S, R, h1, h2, h3, h4, h5⟩
  · exact .inl h
  · exact .inr ⟨h, S, R, h1, h2, h3.fr f (fun x ht hx => (hT x ht hx).1), h4.fr f (fun x ht hx => (hT x ht hx).2), h5⟩
theorem NT.to {w : World} {ℓ ℓ' : Nat → Nat} {k M : Nat} {a r : Option Addr} {on : Bool} (h : NT w ℓ k M a r on) (he : ∀ x, x < w.heap.size → ℓ x = 2 * k ∨ ℓ x = 2 * k + 1 → ℓ' x = ℓ x) : NT w ℓ' k M a r on := by
  rcases h with h | ⟨h, S, R, h1, h2, h3, h4, h5⟩
  · exact .inl h
  · exact .inr ⟨h, S, R, h1, h2, h3.to (fun x hx e _ => by rw [he x hx (.inl e)]; exact e), h4.to (fun x hx e => by rw [he x hx (.inr e)]; exact e), h5⟩
theorem NT.more {w : World} {ℓ : Nat → Nat} {k M : Nat} {a r : Option Addr} {on : Bool} (h : NT w ℓ k M a r on) : NT w ℓ k (M + 1) a r on := by
  rcases h with h | ⟨h, S, R, h1, h2, h3, h4, h5, h6, h7, h8, h9⟩
  · exact .inl h
  · exact .inr ⟨h, S, R, h1, h2, h3, h4, h5, h6, by omega, by omega, by omega⟩
def PSf (bb : Nat) (ap rp : Nat → Option Addr) (on : Nat → Bool) : List Value := [.pointer (ap 0), .pointer (ap 1), .pointer (rp 0), .pointer (rp 1), .bool (on 0), .bool (on 1), .pointer (some ⟨bb, 0, none⟩)]
/-- all but the net k -/
structure PX (w0 w : World) (ℓ : Nat → Nat) (pb bb M k : Nat) (L : List HE) (ap rp : Nat → Option Addr) (on : Nat → Bool) : Prop where
  up : Up w0 w
  la : ∀ x, x < w0.heap.size → ℓ x = 9
  p : At w pb 40 (PSf bb ap rp on)
  lp : ℓ pb = 7
  n : ∀ j, j < 2 → j ≠ k → NT w ℓ j M (ap j) (rp j) (on j)
  b : ∃ ba bc, BI w ℓ bb L ba bc
/-- the state of the law's play -/
structure PI (w0 w : World) (ℓ : Nat → Nat) (pb bb M : Nat) (L : List HE) (ap rp : Nat → Option Addr) (on : Nat → Bool) : Prop where
  x : ∀ k, k < 2 → PX w0 w ℓ pb bb M k L ap rp on
  n : ∀ k, k < 2 → NT w ℓ k M (ap k) (rp k) (on k)
theorem fr_up9 {w0 w w' : World} {ℓ : Nat → Nat} {T : Nat → Prop} (u : Up w0 w) (la : ∀ x, x < w0.heap.size → ℓ x = 9) (f : Fr T w w') (hT : ∀ x, T x → x < w.heap.size → ℓ x ≠ 9) : Up w0 w' :=
  ⟨f.os.trans u.os, f.tape.trans u.tape, f.output.trans u.output, Nat.le_trans u.size f.size, fun j hj => (f.block j (Nat.lt_of_lt_of_le hj u.size) (fun e => hT j e (Nat.lt_of_lt_of_le hj u.size) (la j hj))).trans (u.block j hj)⟩
theorem PX.fr {w0 w w' : World} {ℓ : Nat → Nat} {pb bb M k : Nat} {L : List HE} {ap rp : Nat → Option Addr} {on : Nat → Bool} {T : Nat → Prop} (h : PX w0 w ℓ pb bb M k L ap rp on) (f : Fr T w w') (hk : k < 2) (hT : ∀ x, T x → x < w.heap.size → ℓ x = 2 * k ∨ ℓ x = 2 * k + 1 ∨ ℓ x = 5) : PX w0 w' ℓ pb bb M k L ap rp on := by
  obtain ⟨ba, bc, hb⟩ := h.b
  refine ⟨fr_up9 h.up h.la f (fun x ht hx => by have := hT x ht hx; omega), h.la, f.at h.p (fun ht => by have := hT pb ht (lt_of_at h.p); have := h.lp; omega), h.lp, fun j hj hne => (h.n j hj hne).fr f (fun x ht hx => by have := hT x ht hx; omega), ba, bc, hb.fr f (fun x ht hx => by have := hT x ht hx; omega)⟩
theorem PX.up' {w0 w w' : World} {ℓ : Nat → Nat} {pb bb M k : Nat} {L : List HE} {ap rp : Nat → Option Addr} {on : Nat → Bool} (h : PX w0 w ℓ pb bb M k L ap rp on) (u : Up w w') (hk : k < 2) : PX w0 w' ℓ pb bb M k L ap rp on := h.fr (fr_of_up (fun _ => False) u) hk (fun _ h => h.elim)
theorem PX.to {w0 w : World} {ℓ ℓ' : Nat → Nat} {pb bb M k : Nat} {L : List HE} {ap rp : Nat → Option Addr} {on : Nat → Bool} (h : PX w0 w ℓ pb bb M k L ap rp on) (he : ∀ x, x < w.heap.size → ℓ x ≠ 2 * k → ℓ' x = ℓ x) (hk : k < 2) : PX w0 w ℓ' pb bb M k L ap rp on := by
  obtain ⟨ba, bc, hb⟩ := h.b
  refine ⟨h.up, fun x hx => ?_, h.p, ?_, fun j hj hne => (h.n j hj hne).to (fun x hx e => he x hx (by omega)), ba, bc, hb.to (fun x hx e => by rw [he x hx (by omega)]; exact e)⟩
  · have := h.la x hx
    rw [he x (Nat.lt_of_lt_of_le hx h.up.size) (by omega)]
    exact this
  · have := h.lp
    rw [he pb (lt_of_at h.p) (by omega)]
    exact this
theorem PX.rl {w0 w : World} {ℓ : Nat → Nat} {pb bb M k c : Nat} {L : List HE} {ap rp : Nat → Option Addr} {on : Nat → Bool} (h : PX w0 w ℓ pb bb M k L ap rp on) (hk : k < 2) : PX w0 w (rl ℓ w.heap.size c) pb bb M k L ap rp on := h.to (fun _ hx _ => rl_lo hx) hk
theorem PX.pi {w0 w : World} {ℓ : Nat → Nat} {pb bb M k : Nat} {L : List HE} {ap rp : Nat → Option Addr} {on : Nat → Bool} (h : PX w0 w ℓ pb bb M k L ap rp on) (_ : k < 2) (hn : NT w ℓ k (M + 1) (ap k) (rp k) (on k)) : PI w0 w ℓ pb bb (M + 1) L ap rp on := by
  have hall : ∀ j, j < 2 → NT w ℓ j (M + 1) (ap j) (rp j) (on j) := fun j hj => by
    by_cases e : j = k
    · rw [e]; exact hn
    · exact (h.n j hj e).more
  exact ⟨fun _ _ => ⟨h.up, h.la, h.p, h.lp, fun i hi _ => hall i hi, h.b⟩, hall⟩
theorem PI.more {w0 w : World} {ℓ : Nat → Nat} {pb bb M : Nat} {L : List HE} {ap rp : Nat → Option Addr} {on : Nat → Bool} (h : PI w0 w ℓ pb bb M L ap rp on) : PI w0 w ℓ pb bb (M + 1) L ap rp on :=
  (h.x 0 (by decide)).pi (by decide) (h.n 0 (by decide)).more
theorem PI.up {w0 w w' : World} {ℓ : Nat → Nat} {pb bb M : Nat} {L : List HE} {ap rp : Nat → Option Addr} {on : Nat → Bool} (h : PI w0 w ℓ pb bb M L ap rp on) (u : Up w w') : PI w0 w' ℓ pb bb M L ap rp on :=
  ⟨fun k hk => (h.x k hk).up' u hk, fun k hk => (h.n k hk).fr (fr_of_up (fun _ => False) u) (fun _ h => h.elim)⟩
/-- both sides' state of the net k, apart -/
structure BS (w0 w : World) (ℓ : Nat → Nat) (pb bb M k : Nat) (L : List HE) (ap rp : Nat → Option Addr) (on : Nat → Bool) (S : NS) (R : RS) : Prop where
  x : PX w0 w ℓ pb bb M k L ap rp on
  s : SI w ℓ k S
  q : QI w ℓ k R
theorem BS.prog {w0 w w' : World} {ℓ : Nat → Nat} {pb bb M k j : Nat} {L : List HE} {ap rp : Nat → Option Addr} {on : Nat → Bool} {S S' : NS} {R : RS} {A : AN} (h : BS w0 w ℓ pb bb M k L ap rp on S R) (hk : k < 2) (s : Stp w.heap.size j w w' S S' A) : BS w0 w' (rl ℓ w.heap.size (2 * k)) pb bb M k L ap rp on S' R := by
  have hT : ∀ x, own S x → x < w.heap.size → rl ℓ w.heap.size (2 * k) x = 2 * k := fun x hx hl => by rw [rl_lo hl]; exact h.s.lb x (.inl hx)
  exact ⟨(h.x.rl hk).fr s.fr hk (fun x hx hl => .inl (hT x hx hl)), h.s.step s, (h.q.rl).fr s.fr (fun x hx hl => by rw [hT x hx hl]; omega)⟩
theorem BS.doc {w0 w w' : World} {ℓ : Nat → Nat} {pb bb M k : Nat} {L : List HE} {ap rp : Nat → Option Addr} {on : Nat → Bool} {S : NS} {R R' : RS} {A : AN} (h : BS w0 w ℓ pb bb M k L ap rp on S R) (hk : k < 2) (s : RStp w.heap.size w w' R R' A) : BS w0 w' (rl ℓ w.heap.size (2 * k + 1)) pb bb M k L ap rp on S R' := by
  have hT : ∀ x, rown R x → x < w.heap.size → rl ℓ w.heap.size (2 * k + 1) x = 2 * k + 1 := fun x hx hl => by rw [rl_lo hl]; exact h.q.lb x (.inl hx)
  exact ⟨(h.x.rl hk).fr s.fr hk (fun x hx hl => .inr (.inl (hT x hx hl))), (h.s.rl).fr s.fr (fun x hx hl => by rw [hT x hx hl]; omega), h.q.step s⟩
theorem BS.up {w0 w w' : World} {ℓ : Nat → Nat} {pb bb M k : Nat} {L : List HE} {ap rp : Nat → Option Addr} {on : Nat → Bool} {S : NS} {R : RS} (h : BS w0 w ℓ pb bb M k L ap rp on S R) (hk : k < 2) (u : Up w w') : BS w0 w' ℓ pb bb M k L ap rp on S R := ⟨h.x.up' u hk, h.s.up u, h.q.up u⟩
/-- new memory is lent -/
theorem BS.lent {w0 w : World} {ℓ : Nat → Nat} {pb bb M k : Nat} {L : List HE} {ap rp : Nat → Option Addr} {on : Nat → Bool} {S : NS} {R : RS} (h : BS w0 w ℓ pb bb M k L ap rp on S R) (hk : k < 2) : BS w0 w (rl ℓ w.heap.size 5) pb bb M k L ap rp on S R := ⟨h.x.rl hk, h.s.rl, h.q.rl⟩
/-- what is lent is written over -/
theorem BS.over {w0 w w' : World} {ℓ : Nat → Nat} {pb bb M k : Nat} {L : List HE} {ap rp : Nat → Option Addr} {on : Nat → Bool} {S : NS} {R : RS} {T : Nat → Prop} (h : BS w0 w ℓ pb bb M k L ap rp on S R) (hk : k < 2) (f : Fr T w w') (hT : ∀ x, T x → x < w.heap.size → ℓ x = 5) : BS w0 w' ℓ pb bb M k L ap rp on S R :=
  ⟨h.x.fr f hk (fun x hx hl => .inr (.inr (hT x hx hl))), h.s.fr f (fun x hx hl => by rw [hT x hx hl]; omega), h.q.fr f (fun x hx hl => by rw [hT x hx hl]; omega)⟩
theorem BS.pi {w0 w : World} {ℓ : Nat → Nat} {pb bb M k : Nat} {L : List HE} {ap rp : Nat → Option Addr} {on : Nat → Bool} {S : NS} {R : RS} (h : BS w0 w ℓ pb bb M k L ap rp on S R) (hk : k < 2) (ho : on k = true) (ha : ap k = some ⟨S.nb, 0, none⟩) (hr : rp k = some ⟨R.nb, 0, none⟩) (he : abs S = absR R) (hm : ML (abs S)) (h1 : S.mn ≤ M + 1) (h2 : S.now ≤ 65536 * (M + 1)) (h3 : R.st ≤ M + 1) : PI w0 w ℓ pb bb (M + 1) L ap rp on :=
  h.x.pi hk (.inr ⟨ho, S, R, ha, hr, h.s, h.q, he, hm, h1, h2, h3⟩)
end Go.Proofs.Ytdlfkdehfenemaa
namespace Go.Proofs.Ytdlfkdehfenemaa
open Go.RowKit Go.Conc TextNum
set_option maxRecDepth 100000 in
set_option maxHeartbeats 1000000 in
theorem unspoilt_walk (w : World) (v : Value) (ds : List UInt8) (n : Nat) (h : Sb w v ds) (hn : n ≤ ds.length) (hl : ds.length ≤ 4611686018427387904) (hx : ∀ j (h : j < ds.length), n ≤ j → ds[j] = 199) :
    Calls Try.prog 69 #[v, .int .i64 (n : Int)] w fun e w' => e = .returned (.bool true) ∧ w' = w := by
  obtain ⟨a, c, rfl, hc, _⟩ := id h
  have HS := Hid.of h
  have HX := Hid.of hx
  obtain ⟨m, hm⟩ : ∃ m, ds.length = m := ⟨_, rfl⟩
  have HMM := Hid.of (And.intro hm trivial)
  rw [hm] at hc hn hl HS ⊢
  clear h hx hm
  go_enter Try.func69, Try.ntmps69
  go_wp2
  go_loopw [5] (fun v5 wr => ∃ j : Nat, v5 = .int .i64 (j : Int) ∧ n ≤ j ∧ j ≤ m ∧ Hid (wr = w)) (fun v5 _ => m - (intOf v5).toNat)
  case atStart => exact ⟨n, rfl, Nat.le_refl _, hn, Hid.of rfl⟩
  case round =>
    obtain ⟨j, rfl, hnj, hj, hW⟩ := hrel
    obtain rfl := hW.out.symm
    clear hW
    by_cases hlt : j < m
    · have hltz : (j : Int) < (m : Int) := by omega
      obtain ⟨b, o, rfl, hcl, _⟩ := HS.out.cell (j := j) (by rw [HMM.out.1]; exact hlt)
      rw [HX.out j (by rw [HMM.out.1]; exact hlt) hnj] at hcl
      have hcz : (m : Int) ≤ (c : Int) := by omega
      have hjw : IntKind.i64.wrap ((j : Int) + 1) = (j : Int) + 1 := by rw [IntKind.wrap_i64]; omega
      have hcl' : w.cell? ⟨b, o + j, none⟩ = some (.int .u8 199) := hcl
      clear hcl
      go_wp2
      go_roundw
      case rel => exact ⟨j + 1, by simp, by omega, by omega, Hid.of trivial⟩
      case measure => simp [intOf]; omega
    · have hltz : ¬ (j : Int) < (m : Int) := by omega
      go_wp2
      go_ret
      exact ⟨rfl, rfl⟩
theorem Sb.blk {w : World} {v : Value} {d : List UInt8} (h : Sb w v d) (hd : d ≠ []) : ∀ g, v.ownBlock = some g → g < w.heap.size := fun g hg => by
  obtain ⟨a, c, rfl, _⟩ := id h
  obtain ⟨b, o, rfl, hc, _⟩ := h.cell (j := 0) (List.length_pos_iff.2 hd)
  obtain rfl : b = g := Option.some.inj hg
  exact World.block_lt_of_cell? w _ hc
theorem IL.blk {w : World} {v : Value} {zs : List Int} (h : IL w v zs) (hz : zs ≠ []) : ∀ g, v.ownBlock = some g → g < w.heap.size := fun g hg => by
  obtain ⟨a, c, rfl, _, hx⟩ := h
  have hp : 0 < zs.length := List.length_pos_iff.2 hz
  obtain ⟨b, o, rfl, hc⟩ := hx 0 zs[0] (List.getElem?_eq_getElem hp)
  obtain rfl : b = g := Option.some.inj hg
  exact World.block_lt_of_cell? w _ hc
theorem PSf_a {bb : Nat} {ap rp : Nat → Option Addr} {on : Nat → Bool} {k : Nat} (h : k < 2) : (PSf bb ap rp on)[k]? = some (.pointer (ap k)) := by
  match k, h with
  | 0, _ => rfl
  | 1, _ => rfl
theorem PSf_r {bb : Nat} {ap rp : Nat → Option Addr} {on : Nat → Bool} {k : Nat} (h : k < 2) : (PSf bb ap rp on)[2 + k]? = some (.pointer (rp k)) := by
  match k, h with
  | 0, _ => rfl
  | 1, _ => rfl
theorem PSf_o {bb : Nat} {ap rp : Nat → Option Addr} {on : Nat → Bool} {k : Nat} (h : k < 2) : (PSf bb ap rp on)[4 + k]? = some (.bool (on k)) := by
  match k, h with
  | 0, _ => rfl
  | 1, _ => rfl
/-- an Op in its cells -/
abbrev opc (kz nz lz tz : Int) (lv dv : Value) : List Value := [.int .i64 kz, .int .i64 nz, .int .i64 lz, .int .i64 tz, lv, dv]
theorem op_not_own {w : World} {S : NS} (h : NOk w S) {b : Nat} {cs : List Value} (hA : At w b 108 cs) : ¬ own S b := fun e => by
  rcases h.tag e with t | t | t | t | t <;> rw [hA.tag] at t <;> cases t
theorem op_not_rown {w : World} {R : RS} (h : ROk w R) {b : Nat} {cs : List Value} (hA : At w b 108 cs) : ¬ rown R b := fun e => by
  rcases h.tag e with t | t | t | t | t <;> rw [hA.tag] at t <;> cases t
theorem play_not_own {w : World} {S : NS} (h : NOk w S) {b : Nat} {cs : List Value} (hA : At w b 40 cs) : ¬ own S b := fun e => by
  rcases h.tag e with t | t | t | t | t <;> rw [hA.tag] at t <;> cases t
theorem play_not_rown {w : World} {R : RS} (h : ROk w R) {b : Nat} {cs : List Value} (hA : At w b 40 cs) : ¬ rown R b := fun e => by
  rcases h.tag e with t | t | t | t | t <;> rw [hA.tag] at t <;> cases t
theorem u8_not_rown {w : World} {R : RS} (h : ROk w R) {B : Nat} {v : Value} {d : List UInt8} (o : Ow w B v d) : ∀ g, v.ownBlock = some g → ¬ rown R g := fun g hg hk => by
  have t := row_tag o hg
  rcases h.tag hk with e | e | e | e | e <;> rw [t] at e <;> cases e
theorem old_not_own {w0 w : World} {ℓ : Nat → Nat} {pb bb M k : Nat} {L : List HE} {ap rp : Nat → Option Addr} {on : Nat → Bool} {S : NS} {R : RS} (h : BS w0 w ℓ pb bb M k L ap rp on S R) (hk : k < 2) {g : Nat} (hg : g < w0.heap.size) : ¬ own S g ∧ ¬ rown R g ∧ g < w.heap.size := by
  have h9 := h.x.la g hg
  refine ⟨fun e => ?_, fun e => ?_, Nat.lt_of_lt_of_le hg h.x.up.size⟩
  · have := h.s.lb g (.inl e)
    omega
  · have := h.q.lb g (.inl e)
    omega
theorem NOk.nowA (S : NS) : (abs S).now = S.now := rfl
theorem absR_pdl (R : RS) : (absR R).pd.length = R.pd.length := by unfold absR; simp
/-- what both sides' bounds are -/
theorem pd_bound {S : NS} {R : RS} (k : SOk S) (he : abs S = absR R) : R.pd.length ≤ S.mn := by
  have h1 : (abs S).pd.length = (absR R).pd.length := by rw [he]
  rw [absR_pdl] at h1
  have h2 : (abs S).pd.length = S.pd.length := by unfold abs; simp
  have := k.bd
  omega
theorem now_eq {S : NS} {R : RS} (he : abs S = absR R) : R.now = S.now := by
  have h1 := congrArg AN.now he
  exact h1.symm
set_option maxRecDepth 100000 in
set_option maxHeartbeats 4000000 in
theorem sends_walk (w0 w : World) (ℓ : Nat → Nat) (pb bb M k : Nat) (L : List HE) (ap rp : Nat → Option Addr) (on : Nat → Bool) (hP : PI w0 w ℓ pb bb M L ap rp on) (hk : k < 2) (hon : on k = true) (hM : M ≤ 1073741824) (kz nz lz tz : Int) (lv dv : Value) (d : List UInt8) (hd : Sb w0 dv d) (hdl : d.length ≤ 1099511627000) :
    Calls Try.prog 58 #[.pointer (some ⟨pb, 0, none⟩), .int .i64 (k : Int), .agg (opc kz nz lz tz lv dv).toArray] w fun e w' => e = .returned (.bool true) ∧ ∃ ℓ', PI w0 w' ℓ' pb bb (M + 1) L ap rp on := by
  obtain ⟨S, R, ha, hr, hS, hQ, habs, hml, hmn, hnow, hst⟩ : ∃ S R, ap k = some ⟨S.nb, 0, none⟩ ∧ rp k = some ⟨R.nb, 0, none⟩ ∧ SI w ℓ k S ∧ QI w ℓ k R ∧ abs S = absR R ∧ ML (abs S) ∧ S.mn ≤ M ∧ S.now ≤ 65536 * M ∧ R.st ≤ M := by
    rcases hP.n k hk with h | ⟨_, h⟩
    · rw [hon] at h; cases h
    · exact h
  have HBS := Hid.of (show BS w0 w ℓ pb bb M k L ap rp on S R from ⟨hP.x k hk, hS, hQ⟩)
  obtain ⟨da, dc, rfl, _, _⟩ := id hd
  have hkz : (k : Int) < 2 := by omega
  have hk0 : (0 : Int) ≤ (k : Int) := by omega
  obtain ⟨n, hn⟩ : ∃ n, d.length = n := ⟨_, rfl⟩
  have hn2 : ¬ (n : Int) + 200 < (n : Int) := by omega
  have HNN := Hid.of (And.intro hn trivial)
  have HD := Hid.of hd
  have HDB := Hid.of hd.blk
  have HABS := Hid.of habs
  have HAP := Hid.of (And.intro ha hr)
  have HBD := Hid.of (And.intro hmn (And.intro hnow hst))
  have HML := Hid.of hml
  rw [hn] at hdl HD HDB ⊢
  have HU0 := Hid.of ((Up.refl w).alloc (.cells #[.int .i64 kz, .int .i64 nz, .int .i64 lz, .int .i64 tz, lv, .slice da n dc] 108))
  have HB0 := Hid.of (at_new w 108 (opc kz nz lz tz lv (.slice da n dc)))
  clear hP hS hQ habs ha hr hmn hnow hst hml hd hn
  go_enter Try.func58, Try.ntmps58
  go_wp2_with (with_reducible show wpList _ _ _ ({ dst := _, op := Op.fieldAddr _ _ _, type := _, pos := _, after := _, guard := _ } :: _) _ _; refine Shut.out ?_)
  show wpList _ _ _ _ _ _
  have hBS0 := HBS.out.up hk HU0.out
  have HUW := Hid.of HU0.out.size
  clear HBS
  generalize w.alloc (.cells #[.int .i64 kz, .int .i64 nz, .int .i64 lz, .int .i64 tz, lv, .slice da n dc] 108) = W0 at *
  have HBX := Hid.of (Nat.le_refl w.heap.size)
  generalize hbx : w.heap.size = bx at HBX HB0 ⊢
  have HBE := Hid.of hbx
  clear hbx
  have HBS0 := Hid.of (hBS0.lent hk)
  have HLT := Hid.of (show rl ℓ W0.heap.size 5 W0.heap.size = 5 from rl_hi (Nat.le_refl _))
  have hSb0 : Sb W0 (.slice da n dc) d := HD.out.up hBS0.x.up
  have hlent := lent_walk W0 (.slice da n dc) d hSb0 (by rw [HNN.out.1]; omega)
  rw [HNN.out.1] at hlent
  have b5 := HB0.out.cell (i := 5) rfl
  clear hBS0 HU0
  go_wp2_with fail
  clear b5
  refine hlent.mono ?_
  rintro e w2 ⟨rfl, o2, u2⟩
  obtain ⟨lb, hlb⟩ : ∃ lb, W0.heap.size = lb := ⟨_, rfl⟩
  rw [hlb] at o2 HLT HBS0 ⊢
  obtain ⟨ℓ1, hℓ1⟩ : ∃ ℓ1, rl ℓ lb 5 = ℓ1 := ⟨_, rfl⟩
  rw [hℓ1] at HBS0 HLT
  have HO2 := Hid.of (show Ow w2 lb (.slice (some ⟨lb, 0, none⟩) (n + 200) (n + 200)) (lnt d) from o2)
  have HBS2 := Hid.of (HBS0.out.up hk u2)
  have HB2 := Hid.of (HB0.out.up u2)
  have HUP := Hid.of u2
  have HSB := Hid.of (show Sb w2 (.slice (some ⟨lb, 0, none⟩) n (n + 200)) d from lnt_sb HNN.out.1.symm o2)
  clear hlent o2 u2 hSb0 hlb hℓ1 HBS0 HB0
  have hsp := HBS2.out.x.p
  have HPN := Hid.of (And.intro (play_not_own HBS2.out.s.ok hsp) (op_not_own HBS2.out.s.ok HB2.out))
  clear hsp
  dsimp only
  go_wp2
  refine wp_region_held_drew (S := fun wz => Fr (own S) w2 wz) (by kernel_rfl) ((Fr.refl _ _).up (Up.refl _).drew) (fun hS => ?_)
  refine wpAnyH_take (i := 0) (oi := { dst := some 15, op := Go.Op.move (Go.Operand.tmp 0), type := 31, pos := "law.go:172", after := #[], guard := none }) (v := .pointer (some ⟨pb, 0, none⟩)) rfl (by kernel_rfl) (by kernel_rfl) (by kernel_rfl) (fun _ _ _ h => h) (Or.inl ⟨by kernel_rfl, ?_⟩) hS ?_
  · intro w5 hSw
    clear hSw hS
    go_simp
  simp only [Act.put, List.setIfInBounds_toArray, List.set_cons_zero, List.set_cons_succ]
  refine wpAnyH_take (i := 1) (oi := { dst := some 16, op := Go.Op.move (Go.Operand.tmp 1), type := 3, pos := "law.go:172", after := #[], guard := none }) (v := .int .i64 (k : Int)) rfl (by kernel_rfl) (by kernel_rfl) (by kernel_rfl) (fun _ _ _ h => h) (Or.inl ⟨by kernel_rfl, ?_⟩) hS ?_
  · intro w5 hSw
    clear hSw hS
    go_simp
  simp only [Act.put, List.setIfInBounds_toArray, List.set_cons_zero, List.set_cons_succ]
  refine wpAnyH_take (i := 2) (oi := { dst := some 17, op := Go.Op.nilCheck (Go.Operand.tmp 15), type := 0, pos := "law.go:172", after := #[{ on := 0, ground := Go.Ground.data }], guard := none }) (v := .pointer (some ⟨pb, 0, none⟩)) rfl (by kernel_rfl) (by kernel_rfl) (by kernel_rfl) (fun _ _ _ h => h) (Or.inl ⟨by kernel_rfl, ?_⟩) hS ?_
  · intro w5 hSw
    clear hSw hS
    go_simp
  simp only [Act.put, List.setIfInBounds_toArray, List.set_cons_zero, List.set_cons_succ]
  refine wpAnyH_take (i := 3) (oi := { dst := some 18, op := Go.Op.fieldAddr 40 (Go.Operand.tmp 17) 0, type := 0, pos := "law.go:172", after := #[{ on := 2, ground := Go.Ground.data }], guard := none }) (v := .pointer (some ⟨pb, 0, none⟩)) rfl (by kernel_rfl) (by kernel_rfl) (by kernel_rfl) (fun _ _ _ h => h) (Or.inl ⟨by kernel_rfl, ?_⟩) hS ?_
  · intro w5 hSw
    clear hSw hS
    go_simp
  simp only [Act.put, List.setIfInBounds_toArray, List.set_cons_zero, List.set_cons_succ]
  refine wpAnyH_take (i := 4) (oi := { dst := some 19, op := Go.Op.indexAddr 34 (Go.Operand.tmp 18) (Go.Operand.tmp 16), type := 0, pos := "law.go:172", after := #[{ on := 3, ground := Go.Ground.data }, { on := 1, ground := Go.Ground.data }], guard := none }) (v := .pointer (some ⟨pb, k, none⟩)) rfl (by kernel_rfl) (by kernel_rfl) (by kernel_rfl) (fun _ _ _ h => h) (Or.inl ⟨by kernel_rfl, ?_⟩) hS ?_
  · intro w5 hSw
    clear hSw hS
    go_simp
  simp only [Act.put, List.setIfInBounds_toArray, List.set_cons_zero, List.set_cons_succ]
  refine wpAnyH_take (i := 5) (oi := { dst := some 20, op := Go.Op.load 22 (Go.Operand.tmp 19), type := 22, pos := "law.go:172", after := #[{ on := 4, ground := Go.Ground.data }], guard := none }) (v := .pointer (some ⟨S.nb, 0, none⟩)) rfl (by kernel_rfl) (by kernel_rfl) (by kernel_rfl) (fun _ _ _ h => h) (Or.inl ⟨by kernel_rfl, ?_⟩) hS ?_
  · intro w5 hSw
    have h0 := (hSw.at HBS2.out.x.p HPN.out.1).cell (PSf_a hk)
    rw [HAP.out.1] at h0
    clear hSw hS
    go_simp
  simp only [Act.put, List.setIfInBounds_toArray, List.set_cons_zero, List.set_cons_succ]
  refine wpAnyH_take (i := 6) (oi := { dst := some 21, op := Go.Op.fieldAddr 108 (Go.Operand.tmp 5) 2, type := 0, pos := "law.go:172", after := #[], guard := none }) (v := .pointer (some ⟨bx, 2, none⟩)) rfl (by kernel_rfl) (by kernel_rfl) (by kernel_rfl) (fun _ _ _ h => h) (Or.inl ⟨by kernel_rfl, ?_⟩) hS ?_
  · intro w5 hSw
    clear hSw hS
    go_simp
  simp only [Act.put, List.setIfInBounds_toArray, List.set_cons_zero, List.set_cons_succ]
  refine wpAnyH_take (i := 7) (oi := { dst := some 22, op := Go.Op.load 3 (Go.Operand.tmp 21), type := 3, pos := "law.go:172", after := #[{ on := 6, ground := Go.Ground.data }], guard := none }) (v := .int .i64 lz) rfl (by kernel_rfl) (by kernel_rfl) (by kernel_rfl) (fun _ _ _ h => h) (Or.inl ⟨by kernel_rfl, ?_⟩) hS ?_
  · intro w5 hSw
    have h0 := (hSw.at HB2.out HPN.out.2).cell (i := 2) rfl
    clear hSw hS
    go_simp
  simp only [Act.put, List.setIfInBounds_toArray, List.set_cons_zero, List.set_cons_succ]
  refine wpAnyH_take (i := 8) (oi := { dst := some 23, op := Go.Op.move (Go.Operand.tmp 7), type := 47, pos := "law.go:172", after := #[], guard := none }) (v := .slice (some ⟨lb, 0, none⟩) (n + 200) (n + 200)) rfl (by kernel_rfl) (by kernel_rfl) (by kernel_rfl) (fun _ _ _ h => h) (Or.inl ⟨by kernel_rfl, ?_⟩) hS ?_
  · intro w5 hSw
    clear hSw hS
    go_simp
  simp only [Act.put, List.setIfInBounds_toArray, List.set_cons_zero, List.set_cons_succ]
  refine wpAnyH_take (i := 9) (oi := { dst := some 24, op := Go.Op.fieldAddr 108 (Go.Operand.tmp 5) 5, type := 0, pos := "law.go:172", after := #[], guard := none }) (v := .pointer (some ⟨bx, 5, none⟩)) rfl (by kernel_rfl) (by kernel_rfl) (by kernel_rfl) (fun _ _ _ h => h) (Or.inl ⟨by kernel_rfl, ?_⟩) hS ?_
  · intro w5 hSw
    clear hSw hS
    go_simp
  simp only [Act.put, List.setIfInBounds_toArray, List.set_cons_zero, List.set_cons_succ]
  refine wpAnyH_take (i := 10) (oi := { dst := some 25, op := Go.Op.load 47 (Go.Operand.tmp 24), type := 47, pos := "law.go:172", after := #[{ on := 9, ground := Go.Ground.data }], guard := none }) (v := .slice da n dc) rfl (by kernel_rfl) (by kernel_rfl) (by kernel_rfl) (fun _ _ _ h => h) (Or.inl ⟨by kernel_rfl, ?_⟩) hS ?_
  · intro w5 hSw
    have h0 := (hSw.at HB2.out HPN.out.2).cell (i := 5) rfl
    clear hSw hS
    go_simp
  simp only [Act.put, List.setIfInBounds_toArray, List.set_cons_zero, List.set_cons_succ]
  refine wpAnyH_take (i := 11) (oi := { dst := some 26, op := Go.Op.call { callee := Go.Callee.builtin Go.Builtin.len, args := #[Go.Operand.tmp 25], argTypes := #[47] }, type := 3, pos := "law.go:172", after := #[{ on := 10, ground := Go.Ground.data }], guard := none }) (v := .int .i64 (n : Int)) rfl (by kernel_rfl) (by kernel_rfl) (by kernel_rfl) (fun _ _ _ h => h) (Or.inl ⟨by kernel_rfl, ?_⟩) hS ?_
  · intro w5 hSw
    clear hSw hS
    go_simp
  simp only [Act.put, List.setIfInBounds_toArray, List.set_cons_zero, List.set_cons_succ]
  refine wpAnyH_take (i := 12) (oi := { dst := some 27, op := Go.Op.slice 47 (Go.Operand.tmp 23) none (some (Go.Operand.tmp 26)) none, type := 47, pos := "law.go:172", after := #[{ on := 8, ground := Go.Ground.data }, { on := 11, ground := Go.Ground.data }], guard := none }) (v := .slice (some ⟨lb, 0, none⟩) n (n + 200)) rfl (by kernel_rfl) (by kernel_rfl) (by kernel_rfl) (fun _ _ _ h => h) (Or.inl ⟨by kernel_rfl, ?_⟩) hS ?_
  · intro w5 hSw
    clear hSw hS
    go_simp
  simp only [Act.put, List.setIfInBounds_toArray, List.set_cons_zero, List.set_cons_succ]
  refine wpAnyH_ready (rs := [13]) (by kernel_rfl) (by simp) ?_
  refine AllReadyH.cons (o := { dst := some 28, op := Go.Op.call { callee := Go.Callee.value (Go.Operand.func 18), args := #[Go.Operand.tmp 20, Go.Operand.tmp 22, Go.Operand.tmp 27], argTypes := #[22, 3, 47] }, type := 23, pos := "law.go:172", after := #[{ on := 5, ground := Go.Ground.data }, { on := 7, ground := Go.Ground.data }, { on := 12, ground := Go.Ground.data }], guard := none }) rfl (fun K hK => ?_) AllReadyH.nil
  rw [if_pos (by kernel_rfl)]
  have hC := PSend w2.drew S lz (.slice (some ⟨lb, 0, none⟩) n (n + 200)) d (HBS2.out.s.ok.up (Up.refl _).drew) HBS2.out.s.so (HSB.out.up (Up.refl _).drew) (fun g hg hk2 => by
    obtain rfl : lb = g := Option.some.inj hg
    have h1 := HBS2.out.s.lb lb (.inl hk2)
    rw [HLT.out] at h1
    omega) (by have := HBD.out.2.1; omega) (by have := HBD.out.1; omega)
  go_simp
  refine hC.mono ?_
  rintro e w3 ⟨rfl, S1, h3⟩
  have HBS3 := Hid.of ((HBS2.out.up hk (Up.refl _).drew).prog hk h3)
  have HS1 := Hid.of (And.intro h3.ab (And.intro h3.mn h3.nb))
  have HF3 := Hid.of ((fr_of_up (own S) (Up.refl w2).drew).trans h3.fr (fun x hx => .inl hx))
  have hsz3 := h3.fr.size
  have HL3 := Hid.of (show rl ℓ1 w2.drew.heap.size (2 * k) lb = 5 by rw [rl_lo (n := w2.drew.heap.size) (World.ownsRow.lt HO2.out lb rfl).2]; exact HLT.out)
  generalize rl ℓ1 w2.drew.heap.size (2 * k) = ℓ2 at HBS3 HL3
  have HO3 := Hid.of (show Ow w3 lb (.slice (some ⟨lb, 0, none⟩) (n + 200) (n + 200)) (lnt d) from HF3.out.own HO2.out (u8_not_own HBS2.out.s.ok HO2.out))
  have HB3 := Hid.of (HF3.out.at HB2.out HPN.out.2)
  clear h3 hC hsz3
  dsimp only
  refine hK.out _ _ HF3.out (fun hS2 => ?_)
  clear hK K hS
  have hS := hS2
  clear hS2
  refine wpAnyH_ready (rs := [14]) (by kernel_rfl) (by simp) ?_
  refine AllReadyH.cons (o := { dst := some 8, op := Go.Op.assign (Go.Operand.tmp 28), type := 23, pos := "law.go:172", after := #[{ on := 13, ground := Go.Ground.data }, { on := 13, ground := Go.Ground.chain }, { on := 0, ground := Go.Ground.phase }, { on := 1, ground := Go.Ground.phase }, { on := 2, ground := Go.Ground.phase }, { on := 3, ground := Go.Ground.phase }, { on := 4, ground := Go.Ground.phase }, { on := 5, ground := Go.Ground.phase }, { on := 6, ground := Go.Ground.phase }, { on := 7, ground := Go.Ground.phase }, { on := 8, ground := Go.Ground.phase }, { on := 9, ground := Go.Ground.phase }, { on := 10, ground := Go.Ground.phase }, { on := 11, ground := Go.Ground.phase }, { on := 12, ground := Go.Ground.phase }, { on := 13, ground := Go.Ground.phase }], guard := none }) rfl (fun K hK => ?_) AllReadyH.nil
  rw [if_pos (by kernel_rfl)]
  go_simp
  refine hK.out _ _ hS (fun hS2 => ?_)
  clear hK K hS hS2
  refine wpAnyH_done (by kernel_rfl) ?_ _
  have HPN3 := Hid.of (And.intro (play_not_rown HBS3.out.q.ok HBS3.out.x.p) (op_not_rown HBS3.out.q.ok HB3.out))
  go_wp2
  refine wp_region_held_drew (S := fun wz => Fr (rown R) w3 wz) (by kernel_rfl) ((Fr.refl _ _).up (Up.refl _).drew) (fun hS => ?_)
  refine wpAnyH_take (i := 0) (oi := { dst := some 29, op := Go.Op.move (Go.Operand.tmp 0), type := 31, pos := "law.go:173", after := #[], guard := none }) (v := .pointer (some ⟨pb, 0, none⟩)) rfl (by kernel_rfl) (by kernel_rfl) (by kernel_rfl) (fun _ _ _ h => h) (Or.inl ⟨by kernel_rfl, ?_⟩) hS ?_
  · intro w5 hSw
    clear hSw hS
    go_simp
  simp only [Act.put, List.setIfInBounds_toArray, List.set_cons_zero, List.set_cons_succ]
  refine wpAnyH_take (i := 1) (oi := { dst := some 30, op := Go.Op.move (Go.Operand.tmp 1), type := 3, pos := "law.go:173", after := #[], guard := none }) (v := .int .i64 (k : Int)) rfl (by kernel_rfl) (by kernel_rfl) (by kernel_rfl) (fun _ _ _ h => h) (Or.inl ⟨by kernel_rfl, ?_⟩) hS ?_
  · intro w5 hSw
    clear hSw hS
    go_simp
  simp only [Act.put, List.setIfInBounds_toArray, List.set_cons_zero, List.set_cons_succ]
  refine wpAnyH_take (i := 2) (oi := { dst := some 31, op := Go.Op.nilCheck (Go.Operand.tmp 29), type := 0, pos := "law.go:173", after := #[{ on := 0, ground := Go.Ground.data }], guard := none }) (v := .pointer (some ⟨pb, 0, none⟩)) rfl (by kernel_rfl) (by kernel_rfl) (by kernel_rfl) (fun _ _ _ h => h) (Or.inl ⟨by kernel_rfl, ?_⟩) hS ?_
  · intro w5 hSw
    clear hSw hS
    go_simp
  simp only [Act.put, List.setIfInBounds_toArray, List.set_cons_zero, List.set_cons_succ]
  refine wpAnyH_take (i := 3) (oi := { dst := some 32, op := Go.Op.fieldAddr 40 (Go.Operand.tmp 31) 1, type := 0, pos := "law.go:173", after := #[{ on := 2, ground := Go.Ground.data }], guard := none }) (v := .pointer (some ⟨pb, 2, none⟩)) rfl (by kernel_rfl) (by kernel_rfl) (by kernel_rfl) (fun _ _ _ h => h) (Or.inl ⟨by kernel_rfl, ?_⟩) hS ?_
  · intro w5 hSw
    clear hSw hS
    go_simp
  simp only [Act.put, List.setIfInBounds_toArray, List.set_cons_zero, List.set_cons_succ]
  refine wpAnyH_take (i := 4) (oi := { dst := some 33, op := Go.Op.indexAddr 36 (Go.Operand.tmp 32) (Go.Operand.tmp 30), type := 0, pos := "law.go:173", after := #[{ on := 3, ground := Go.Ground.data }, { on := 1, ground := Go.Ground.data }], guard := none }) (v := .pointer (some ⟨pb, 2 + k, none⟩)) rfl (by kernel_rfl) (by kernel_rfl) (by kernel_rfl) (fun _ _ _ h => h) (Or.inl ⟨by kernel_rfl, ?_⟩) hS ?_
  · intro w5 hSw
    clear hSw hS
    go_simp
  simp only [Act.put, List.setIfInBounds_toArray, List.set_cons_zero, List.set_cons_succ]
  refine wpAnyH_take (i := 5) (oi := { dst := some 34, op := Go.Op.load 35 (Go.Operand.tmp 33), type := 35, pos := "law.go:173", after := #[{ on := 4, ground := Go.Ground.data }], guard := none }) (v := .pointer (some ⟨R.nb, 0, none⟩)) rfl (by kernel_rfl) (by kernel_rfl) (by kernel_rfl) (fun _ _ _ h => h) (Or.inl ⟨by kernel_rfl, ?_⟩) hS ?_
  · intro w5 hSw
    have h0 := (hSw.at HBS3.out.x.p HPN3.out.1).cell (PSf_r hk)
    rw [HAP.out.2] at h0
    clear hSw hS
    go_simp
  simp only [Act.put, List.setIfInBounds_toArray, List.set_cons_zero, List.set_cons_succ]
  refine wpAnyH_take (i := 6) (oi := { dst := some 35, op := Go.Op.fieldAddr 108 (Go.Operand.tmp 5) 2, type := 0, pos := "law.go:173", after := #[], guard := none }) (v := .pointer (some ⟨bx, 2, none⟩)) rfl (by kernel_rfl) (by kernel_rfl) (by kernel_rfl) (fun _ _ _ h => h) (Or.inl ⟨by kernel_rfl, ?_⟩) hS ?_
  · intro w5 hSw
    clear hSw hS
    go_simp
  simp only [Act.put, List.setIfInBounds_toArray, List.set_cons_zero, List.set_cons_succ]
  refine wpAnyH_take (i := 7) (oi := { dst := some 36, op := Go.Op.load 3 (Go.Operand.tmp 35), type := 3, pos := "law.go:173", after := #[{ on := 6, ground := Go.Ground.data }], guard := none }) (v := .int .i64 lz) rfl (by kernel_rfl) (by kernel_rfl) (by kernel_rfl) (fun _ _ _ h => h) (Or.inl ⟨by kernel_rfl, ?_⟩) hS ?_
  · intro w5 hSw
    have h0 := (hSw.at HB3.out HPN3.out.2).cell (i := 2) rfl
    clear hSw hS
    go_simp
  simp only [Act.put, List.setIfInBounds_toArray, List.set_cons_zero, List.set_cons_succ]
  refine wpAnyH_take (i := 8) (oi := { dst := some 37, op := Go.Op.fieldAddr 108 (Go.Operand.tmp 5) 5, type := 0, pos := "law.go:173", after := #[], guard := none }) (v := .pointer (some ⟨bx, 5, none⟩)) rfl (by kernel_rfl) (by kernel_rfl) (by kernel_rfl) (fun _ _ _ h => h) (Or.inl ⟨by kernel_rfl, ?_⟩) hS ?_
  · intro w5 hSw
    clear hSw hS
    go_simp
  simp only [Act.put, List.setIfInBounds_toArray, List.set_cons_zero, List.set_cons_succ]
  refine wpAnyH_take (i := 9) (oi := { dst := some 38, op := Go.Op.load 47 (Go.Operand.tmp 37), type := 47, pos := "law.go:173", after := #[{ on := 8, ground := Go.Ground.data }], guard := none }) (v := .slice da n dc) rfl (by kernel_rfl) (by kernel_rfl) (by kernel_rfl) (fun _ _ _ h => h) (Or.inl ⟨by kernel_rfl, ?_⟩) hS ?_
  · intro w5 hSw
    have h0 := (hSw.at HB3.out HPN3.out.2).cell (i := 5) rfl
    clear hSw hS
    go_simp
  simp only [Act.put, List.setIfInBounds_toArray, List.set_cons_zero, List.set_cons_succ]
  refine wpAnyH_ready (rs := [10]) (by kernel_rfl) (by simp) ?_
  refine AllReadyH.cons (o := { dst := some 39, op := Go.Op.call { callee := Go.Callee.value (Go.Operand.func 68), args := #[Go.Operand.tmp 34, Go.Operand.tmp 36, Go.Operand.tmp 38], argTypes := #[35, 3, 47] }, type := 3, pos := "law.go:173", after := #[{ on := 5, ground := Go.Ground.data }, { on := 7, ground := Go.Ground.data }, { on := 9, ground := Go.Ground.data }], guard := none }) rfl (fun K hK => ?_) AllReadyH.nil
  rw [if_pos (by kernel_rfl)]
  have hC := QSend w3.drew R lz (.slice da n dc) d (HBS3.out.q.ok.up (Up.refl _).drew) (by rw [← HABS.out]; exact ASo.of HBS2.out.s.so) (HD.out.up (HBS3.out.x.up.drew)) (fun hne g hg => (old_not_own HBS3.out hk (HDB.out hne g hg)).2.1) (by rw [now_eq HABS.out]; have := HBD.out.2.1; omega) (by have := pd_bound HBS2.out.s.so HABS.out; have := HBD.out.1; omega) (by have := HBD.out.2.2; omega)
  go_simp
  refine hC.mono ?_
  rintro e w4 ⟨rfl, R1, h4, hst4⟩
  have HBS4 := Hid.of ((HBS3.out.up hk (Up.refl _).drew).doc hk h4)
  have HF4 := Hid.of ((fr_of_up (rown R) (Up.refl w3).drew).trans h4.fr (fun x hx => .inl hx))
  have HL4 := Hid.of (show rl ℓ2 w3.drew.heap.size (2 * k + 1) lb = 5 by rw [rl_lo (n := w3.drew.heap.size) (World.ownsRow.lt HO3.out lb rfl).2]; exact HL3.out)
  generalize rl ℓ2 w3.drew.heap.size (2 * k + 1) = ℓ3 at HBS4 HL4
  have HO4 := Hid.of (show Ow w4 lb (.slice (some ⟨lb, 0, none⟩) (n + 200) (n + 200)) (lnt d) from HF4.out.own HO3.out (u8_not_rown HBS3.out.q.ok HO3.out))
  have HB4 := Hid.of (HF4.out.at HB3.out HPN3.out.2)
  have HEQ := Hid.of (show abs S1 = absR R1 ∧ ML (abs S1) ∧ S1.mn ≤ M + 1 ∧ S1.now ≤ 65536 * (M + 1) ∧ R1.st ≤ M + 1 from ⟨by rw [HS1.out.1, h4.ab, HABS.out], by rw [HS1.out.1]; exact HML.out.sndR _ _, by have := HS1.out.2.1; have := HBD.out.1; omega, by
    have e : S1.now = S.now := by
      have h1 := congrArg AN.now HS1.out.1
      rw [sndR_now] at h1
      exact h1
    rw [e]
    have := HBD.out.2.1
    omega, by have := HBD.out.2.2; omega⟩)
  have HNB := Hid.of (And.intro HS1.out.2.2 h4.nb)
  rw [← HABS.out]
  clear h4 hC hst4
  dsimp only
  refine hK.out _ _ HF4.out (fun hS2 => ?_)
  clear hK K hS
  have hS := hS2
  clear hS2
  refine wpAnyH_ready (rs := [11]) (by kernel_rfl) (by simp) ?_
  refine AllReadyH.cons (o := { dst := some 9, op := Go.Op.assign (Go.Operand.tmp 39), type := 3, pos := "law.go:173", after := #[{ on := 10, ground := Go.Ground.data }, { on := 10, ground := Go.Ground.chain }, { on := 0, ground := Go.Ground.phase }, { on := 1, ground := Go.Ground.phase }, { on := 2, ground := Go.Ground.phase }, { on := 3, ground := Go.Ground.phase }, { on := 4, ground := Go.Ground.phase }, { on := 5, ground := Go.Ground.phase }, { on := 6, ground := Go.Ground.phase }, { on := 7, ground := Go.Ground.phase }, { on := 8, ground := Go.Ground.phase }, { on := 9, ground := Go.Ground.phase }, { on := 10, ground := Go.Ground.phase }], guard := none }) rfl (fun K hK => ?_) AllReadyH.nil
  rw [if_pos (by kernel_rfl)]
  go_simp
  refine hK.out _ _ hS (fun hS2 => ?_)
  clear hK K hS hS2
  refine wpAnyH_done (by kernel_rfl) ?_ _
  have HSB4 := Hid.of (show Sb w4 (.slice (some ⟨lb, 0, none⟩) n (n + 200)) d from lnt_sb HNN.out.1.symm HO4.out)
  have HL5 := Hid.of HL4.out
  go_wp2
  refine wp_region_held_drew (S := fun wz => Up w4 wz) (by kernel_rfl) (Up.refl _).drew (fun hS => ?_)
  refine wpAnyH_take (i := 0) (oi := { dst := some 40, op := Go.Op.move (Go.Operand.tmp 7), type := 47, pos := "law.go:174", after := #[], guard := none }) (v := .slice (some ⟨lb, 0, none⟩) (n + 200) (n + 200)) rfl (by kernel_rfl) (by kernel_rfl) (by kernel_rfl) (fun _ _ _ h => h) (Or.inl ⟨by kernel_rfl, ?_⟩) hS ?_
  · intro w5 hSw
    clear hSw hS
    go_simp
  simp only [Act.put, List.setIfInBounds_toArray, List.set_cons_zero, List.set_cons_succ]
  refine wpAnyH_take (i := 1) (oi := { dst := some 41, op := Go.Op.fieldAddr 108 (Go.Operand.tmp 5) 5, type := 0, pos := "law.go:174", after := #[], guard := none }) (v := .pointer (some ⟨bx, 5, none⟩)) rfl (by kernel_rfl) (by kernel_rfl) (by kernel_rfl) (fun _ _ _ h => h) (Or.inl ⟨by kernel_rfl, ?_⟩) hS ?_
  · intro w5 hSw
    clear hSw hS
    go_simp
  simp only [Act.put, List.setIfInBounds_toArray, List.set_cons_zero, List.set_cons_succ]
  refine wpAnyH_take (i := 2) (oi := { dst := some 42, op := Go.Op.load 47 (Go.Operand.tmp 41), type := 47, pos := "law.go:174", after := #[{ on := 1, ground := Go.Ground.data }], guard := none }) (v := .slice da n dc) rfl (by kernel_rfl) (by kernel_rfl) (by kernel_rfl) (fun _ _ _ h => h) (Or.inl ⟨by kernel_rfl, ?_⟩) hS ?_
  · intro w5 hSw
    have h0 := (HB4.out.up hSw).cell (i := 5) rfl
    clear hSw hS
    go_simp
  simp only [Act.put, List.setIfInBounds_toArray, List.set_cons_zero, List.set_cons_succ]
  refine wpAnyH_take (i := 3) (oi := { dst := some 43, op := Go.Op.call { callee := Go.Callee.builtin Go.Builtin.len, args := #[Go.Operand.tmp 42], argTypes := #[47] }, type := 3, pos := "law.go:174", after := #[{ on := 2, ground := Go.Ground.data }], guard := none }) (v := .int .i64 (n : Int)) rfl (by kernel_rfl) (by kernel_rfl) (by kernel_rfl) (fun _ _ _ h => h) (Or.inl ⟨by kernel_rfl, ?_⟩) hS ?_
  · intro w5 hSw
    clear hSw hS
    go_simp
  simp only [Act.put, List.setIfInBounds_toArray, List.set_cons_zero, List.set_cons_succ]
  refine wpAnyH_take (i := 4) (oi := { dst := some 44, op := Go.Op.slice 47 (Go.Operand.tmp 40) none (some (Go.Operand.tmp 43)) none, type := 47, pos := "law.go:174", after := #[{ on := 0, ground := Go.Ground.data }, { on := 3, ground := Go.Ground.data }], guard := none }) (v := .slice (some ⟨lb, 0, none⟩) n (n + 200)) rfl (by kernel_rfl) (by kernel_rfl) (by kernel_rfl) (fun _ _ _ h => h) (Or.inl ⟨by kernel_rfl, ?_⟩) hS ?_
  · intro w5 hSw
    clear hSw hS
    go_simp
  simp only [Act.put, List.setIfInBounds_toArray, List.set_cons_zero, List.set_cons_succ]
  refine wpAnyH_take (i := 5) (oi := { dst := some 45, op := Go.Op.fieldAddr 108 (Go.Operand.tmp 5) 5, type := 0, pos := "law.go:174", after := #[], guard := none }) (v := .pointer (some ⟨bx, 5, none⟩)) rfl (by kernel_rfl) (by kernel_rfl) (by kernel_rfl) (fun _ _ _ h => h) (Or.inl ⟨by kernel_rfl, ?_⟩) hS ?_
  · intro w5 hSw
    clear hSw hS
    go_simp
  simp only [Act.put, List.setIfInBounds_toArray, List.set_cons_zero, List.set_cons_succ]
  refine wpAnyH_take (i := 6) (oi := { dst := some 46, op := Go.Op.load 47 (Go.Operand.tmp 45), type := 47, pos := "law.go:174", after := #[{ on := 5, ground := Go.Ground.data }], guard := none }) (v := .slice da n dc) rfl (by kernel_rfl) (by kernel_rfl) (by kernel_rfl) (fun _ _ _ h => h) (Or.inl ⟨by kernel_rfl, ?_⟩) hS ?_
  · intro w5 hSw
    have h0 := (HB4.out.up hSw).cell (i := 5) rfl
    clear hSw hS
    go_simp
  simp only [Act.put, List.setIfInBounds_toArray, List.set_cons_zero, List.set_cons_succ]
  refine wpAnyH_ready (rs := [7]) (by kernel_rfl) (by simp) ?_
  refine AllReadyH.cons (o := { dst := some 47, op := Go.Op.call { callee := Go.Callee.value (Go.Operand.func 24), args := #[Go.Operand.tmp 44, Go.Operand.tmp 46], argTypes := #[47, 47] }, type := 4, pos := "law.go:174", after := #[{ on := 4, ground := Go.Ground.data }, { on := 6, ground := Go.Ground.data }], guard := none }) rfl (fun K hK => ?_) AllReadyH.nil
  rw [if_pos (by kernel_rfl)]
  have hC := same_any w4.drew (.slice (some ⟨lb, 0, none⟩) n (n + 200)) (.slice da n dc) d d (HSB4.out.up (Up.refl _).drew) (HD.out.up HBS4.out.x.up.drew) (by rw [HNN.out.1]; omega)
  rw [show (d == d) = true by simp] at hC
  go_simp
  refine hC.mono ?_
  rintro e w5 ⟨rfl, u5⟩
  dsimp only
  have HU5 := Hid.of ((Up.refl w4).drew.trans u5)
  clear u5 hC
  refine hK.out _ _ HU5.out (fun hS2 => ?_)
  clear hK K hS
  have hS := hS2
  clear hS2
  refine wpAnyH_take (i := 8) (oi := { dst := some 48, op := Go.Op.move (Go.Operand.tmp 47), type := 4, pos := "law.go:174", after := #[{ on := 7, ground := Go.Ground.data }, { on := 7, ground := Go.Ground.chain }], guard := none }) (v := .bool true) rfl (by kernel_rfl) (by kernel_rfl) (by kernel_rfl) (fun _ _ _ h => h) (Or.inl ⟨by kernel_rfl, ?_⟩) hS ?_
  · intro w5 hSw
    clear hSw hS
    go_simp
  simp only [Act.put, List.setIfInBounds_toArray, List.set_cons_zero, List.set_cons_succ]
  refine wpAnyH_take (i := 9) (oi := { dst := some 49, op := Go.Op.move (Go.Operand.tmp 7), type := 47, pos := "law.go:174", after := #[{ on := 8, ground := Go.Ground.guard }], guard := some (8, true) }) (v := .slice (some ⟨lb, 0, none⟩) (n + 200) (n + 200)) rfl (by kernel_rfl) (by kernel_rfl) (by kernel_rfl) (fun _ _ _ h => h) (Or.inl ⟨by kernel_rfl, ?_⟩) hS ?_
  · intro w5 hSw
    clear hSw hS
    go_simp
  simp only [Act.put, List.setIfInBounds_toArray, List.set_cons_zero, List.set_cons_succ]
  refine wpAnyH_take (i := 10) (oi := { dst := some 50, op := Go.Op.fieldAddr 108 (Go.Operand.tmp 5) 5, type := 0, pos := "law.go:174", after := #[{ on := 8, ground := Go.Ground.guard }], guard := some (8, true) }) (v := .pointer (some ⟨bx, 5, none⟩)) rfl (by kernel_rfl) (by kernel_rfl) (by kernel_rfl) (fun _ _ _ h => h) (Or.inl ⟨by kernel_rfl, ?_⟩) hS ?_
  · intro w5 hSw
    clear hSw hS
    go_simp
  simp only [Act.put, List.setIfInBounds_toArray, List.set_cons_zero, List.set_cons_succ]
  refine wpAnyH_take (i := 11) (oi := { dst := some 51, op := Go.Op.load 47 (Go.Operand.tmp 50), type := 47, pos := "law.go:174", after := #[{ on := 10, ground := Go.Ground.data }, { on := 8, ground := Go.Ground.guard }], guard := some (8, true) }) (v := .slice da n dc) rfl (by kernel_rfl) (by kernel_rfl) (by kernel_rfl) (fun _ _ _ h => h) (Or.inl ⟨by kernel_rfl, ?_⟩) hS ?_
  · intro w5 hSw
    have h0 := (HB4.out.up hSw).cell (i := 5) rfl
    clear hSw hS
    go_simp
  simp only [Act.put, List.setIfInBounds_toArray, List.set_cons_zero, List.set_cons_succ]
  refine wpAnyH_take (i := 12) (oi := { dst := some 52, op := Go.Op.call { callee := Go.Callee.builtin Go.Builtin.len, args := #[Go.Operand.tmp 51], argTypes := #[47] }, type := 3, pos := "law.go:174", after := #[{ on := 11, ground := Go.Ground.data }, { on := 8, ground := Go.Ground.guard }], guard := some (8, true) }) (v := .int .i64 (n : Int)) rfl (by kernel_rfl) (by kernel_rfl) (by kernel_rfl) (fun _ _ _ h => h) (Or.inl ⟨by kernel_rfl, ?_⟩) hS ?_
  · intro w5 hSw
    clear hSw hS
    go_simp
  simp only [Act.put, List.setIfInBounds_toArray, List.set_cons_zero, List.set_cons_succ]
  refine wpAnyH_ready (rs := [13]) (by kernel_rfl) (by simp) ?_
  refine AllReadyH.cons (o := { dst := some 53, op := Go.Op.call { callee := Go.Callee.value (Go.Operand.func 69), args := #[Go.Operand.tmp 49, Go.Operand.tmp 52], argTypes := #[47, 3] }, type := 4, pos := "law.go:174", after := #[{ on := 9, ground := Go.Ground.data }, { on := 12, ground := Go.Ground.data }, { on := 8, ground := Go.Ground.chain }, { on := 8, ground := Go.Ground.guard }], guard := some (8, true) }) rfl (fun K hK => ?_) AllReadyH.nil
  rw [if_pos (by kernel_rfl)]
  have hC := unspoilt_walk w5 (.slice (some ⟨lb, 0, none⟩) (n + 200) (n + 200)) (lnt d) n (Ow.sb (ow_up HO4.out HU5.out)) (by rw [lnt_len, HNN.out.1]; omega) (by rw [lnt_len, HNN.out.1]; omega) (fun j hj hnj => lnt_hi (by rw [HNN.out.1]; exact hnj) hj)
  go_simp
  refine hC.mono ?_
  rintro e w6 ⟨rfl, h9⟩
  obtain rfl := h9.symm
  clear h9 hC
  dsimp only
  refine hK.out _ _ HU5.out (fun hS2 => ?_)
  clear hK K hS
  have hS := hS2
  clear hS2
  refine wpAnyH_take (i := 14) (oi := { dst := some 54, op := Go.Op.pick (Go.Operand.tmp 48) (Go.Operand.tmp 53) (Go.Operand.const (Go.Value.bool false)), type := 4, pos := "law.go:174", after := #[{ on := 8, ground := Go.Ground.data }, { on := 13, ground := Go.Ground.data }], guard := none }) (v := .bool true) rfl (by kernel_rfl) (by kernel_rfl) (by kernel_rfl) (fun _ _ _ h => h) (Or.inl ⟨by kernel_rfl, ?_⟩) hS ?_
  · intro w5 hSw
    clear hSw hS
    go_simp
  simp only [Act.put, List.setIfInBounds_toArray, List.set_cons_zero, List.set_cons_succ]
  refine wpAnyH_ready (rs := [15]) (by kernel_rfl) (by simp) ?_
  refine AllReadyH.cons (o := { dst := some 10, op := Go.Op.assign (Go.Operand.tmp 54), type := 4, pos := "law.go:174", after := #[{ on := 14, ground := Go.Ground.data }, { on := 13, ground := Go.Ground.chain }, { on := 0, ground := Go.Ground.phase }, { on := 1, ground := Go.Ground.phase }, { on := 2, ground := Go.Ground.phase }, { on := 3, ground := Go.Ground.phase }, { on := 4, ground := Go.Ground.phase }, { on := 5, ground := Go.Ground.phase }, { on := 6, ground := Go.Ground.phase }, { on := 7, ground := Go.Ground.phase }, { on := 8, ground := Go.Ground.phase }, { on := 9, ground := Go.Ground.phase }, { on := 10, ground := Go.Ground.phase }, { on := 11, ground := Go.Ground.phase }, { on := 12, ground := Go.Ground.phase }, { on := 13, ground := Go.Ground.phase }, { on := 14, ground := Go.Ground.phase }], guard := none }) rfl (fun K hK => ?_) AllReadyH.nil
  rw [if_pos (by kernel_rfl)]
  go_simp
  refine hK.out _ _ hS (fun hS2 => ?_)
  clear hK K hS hS2
  refine wpAnyH_done (by kernel_rfl) ?_ _
  go_wp2
  clear HBS3 HBS2 HB2 HB3 HB4 HSB HSB4
  have HI0 := Hid.of (show w5.ownsRow 0 5 1 (.slice (some ⟨lb, 0, none⟩) (n + 200) (n + 200)) (n + 200) (cb (fil 238 (lnt d) 0)) ∧ Fr (fun k => k = lb) w5 w5 from ⟨by
    rw [fil_zero]
    have := ow_base (ow_up HO4.out HU5.out) (Nat.zero_le _)
    rw [lnt_len, HNN.out.1] at this
    exact this, Fr.refl _ _⟩)
  have HLL := Hid.of (show (lnt d).length = n + 200 by rw [lnt_len, HNN.out.1])
  have HBS5 := Hid.of (HBS4.out.up hk HU5.out)
  clear HO4 HBS4 HU5
  go_loopw [11] (fun v11 wr => ∃ i : Nat, v11 = .int .i64 (i : Int) ∧ i ≤ n + 200 ∧ Hid (wr.ownsRow 0 5 1 (.slice (some ⟨lb, 0, none⟩) (n + 200) (n + 200)) (n + 200) (cb (fil 238 (lnt d) i)) ∧ Fr (fun k => k = lb) w5 wr)) (fun v11 _ => n + 200 - (intOf v11).toNat)
  case atStart => exact ⟨0, rfl, by omega, HI0⟩
  case round =>
    clear HI0
    obtain ⟨i, rfl, hi, hR⟩ := hrel
    have HR := Hid.of hR.out
    clear hR
    by_cases hlt : i < n + 200
    · have hltz : (i : Int) < (n : Int) + 200 := by omega
      have hiw : IntKind.i64.wrap ((i : Int) + 1) = (i : Int) + 1 := by rw [IntKind.wrap_i64]; omega
      obtain ⟨⟨u, k0⟩, k1, k2⟩ := ow_fil HR.out.1 HLL.out hlt
      have HX := Hid.of (show (wr.setCell ⟨lb, i, none⟩ (vb 238)).ownsRow 0 5 1 (.slice (some ⟨lb, 0, none⟩) (n + 200) (n + 200)) (n + 200) (cb (fil 238 (lnt d) (i + 1))) ∧ Fr (fun k => k = lb) w5 (wr.setCell ⟨lb, i, none⟩ (vb 238)) from ⟨k2, HR.out.2.by (grown_set wr ⟨lb, i, none⟩ (vb 238)) (fun q hq => .inl (Option.some.inj hq).symm)⟩)
      clear k2
      go_wp2
      go_roundw
      case rel => exact ⟨i + 1, by simp, by omega, HX⟩
      case measure => simp [intOf]; omega
    · have hltz : ¬ (i : Int) < (n : Int) + 200 := by omega
      obtain rfl : i = n + 200 := by omega
      have HBS6 := Hid.of (HBS5.out.over hk HR.out.2 (fun x hx _ => by rw [hx]; exact HL5.out))
      clear HR HBS5
      go_wp2_with (go_at_call 13; refine (num_walk _ _).mono ?_; rintro _ w9 ⟨rfl, h9⟩; obtain rfl := h9.symm; clear h9; dsimp only)
      go_ret
      refine ⟨by simp, _, HBS6.out.pi hk hon (by rw [HAP.out.1, HNB.out.1]) (by rw [HAP.out.2, HNB.out.2]) HEQ.out.1 HEQ.out.2.1 HEQ.out.2.2.1 HEQ.out.2.2.2.1 HEQ.out.2.2.2.2⟩
end Go.Proofs.Ytdlfkdehfenemaa
