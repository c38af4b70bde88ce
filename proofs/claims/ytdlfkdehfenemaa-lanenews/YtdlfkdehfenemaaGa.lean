import Derived.Test.YtdlfkdehfenemaaCf
namespace Go.Proofs.Ytdlfkdehfenemaa
open Go.RowKit Go.Conc TextNum
/-- a message of the law as it lies -/
structure Sn where
  g : Nat
  i : Nat
  a : Option Addr
  c : Nat
  d : List UInt8
  k : Int
  n : Int
def snc (q : Sn) : List Value := [.int .i64 (q.g : Int), .int .i64 (q.i : Int), .slice q.a q.d.length q.c, .int .i64 q.k, .int .i64 q.n]
structure SnOk (w : World) (q : Sn) : Prop where
  sb : Sb w (.slice q.a q.d.length q.c) q.d
  len : q.d.length ≤ 4096
  i2 : q.i < 2
  g2 : q.g < 20
  fk : fok (q.k, q.n) = true
/-- a list of messages that is read -/
structure SnL (w : World) (a : Option Addr) (l : List Sn) : Prop where
  cells : ∀ i (h : i < l.length), ∃ b off, a = some ⟨b, off, none⟩ ∧ w.rangeAt b (off + i * 5) (snc l[i])
  ok : ∀ q ∈ l, SnOk w q
theorem SnOk.up {w w' : World} {q : Sn} (h : SnOk w q) (u : Up w w') : SnOk w' q := ⟨h.sb.up u, h.len, h.i2, h.g2, h.fk⟩
theorem range_up' {w w' : World} {b o : Nat} {vs : List Value} (h : w.rangeAt b o vs) (u : Up w w') : w'.rangeAt b o vs := fun i v hv => by
  have h1 := h i v hv
  have hb : b < w.heap.size := by
    rcases Nat.lt_or_ge b w.heap.size with h2 | h2
    · exact h2
    · rw [World.cell?, Array.getElem?_eq_none h2] at h1; cases h1
  rw [World.cell?_of_block (a := ⟨b, o + i, none⟩) (u.block b hb)]
  exact h1
theorem SnL.up {w w' : World} {a : Option Addr} {l : List Sn} (h : SnL w a l) (u : Up w w') : SnL w' a l :=
  ⟨fun i hi => by obtain ⟨b, off, e, k⟩ := h.cells i hi; exact ⟨b, off, e, range_up' k u⟩, fun q hq => (h.ok q hq).up u⟩
theorem SnL.get {w : World} {a : Option Addr} {l : List Sn} (h : SnL w a l) {i : Nat} (hi : i < l.length) : ∃ b off, a = some ⟨b, off, none⟩ ∧ w.cell? ⟨b, off + i * 5, none⟩ = some (.int .i64 ((l[i]).g : Int)) ∧ w.cell? ⟨b, off + i * 5 + 1, none⟩ = some (.int .i64 ((l[i]).i : Int)) ∧ w.cell? ⟨b, off + i * 5 + 2, none⟩ = some (.slice (l[i]).a (l[i]).d.length (l[i]).c) ∧ w.cell? ⟨b, off + i * 5 + 3, none⟩ = some (.int .i64 (l[i]).k) ∧ w.cell? ⟨b, off + i * 5 + 4, none⟩ = some (.int .i64 (l[i]).n) := by
  obtain ⟨b, off, e, k⟩ := h.cells i hi
  exact ⟨b, off, e, k 0 _ rfl, k 1 _ rfl, k 2 _ rfl, k 3 _ rfl, k 4 _ rfl⟩
def sel (x y : Bool) (q : Sn) : Bool := (q.i == 0 && x) || (q.i == 1 && y)
def ftl (x y : Bool) (l : List Sn) : List (Int × Int) := (l.filter (sel x y)).map fun q => (q.k, q.n)
theorem ftl_snoc (x y : Bool) (l : List Sn) (q : Sn) : ftl x y (l ++ [q]) = ftl x y l ++ if sel x y q then [(q.k, q.n)] else [] := by
  unfold ftl
  rw [List.filter_append, List.map_append]
  by_cases h : sel x y q
  · simp [h]
  · simp [h]
theorem ftl_len (x y : Bool) (l : List Sn) : (ftl x y l).length ≤ l.length := by
  unfold ftl
  rw [List.length_map]
  exact List.length_filter_le _ _
theorem fateE_ok {fs : List (Int × Int)} (h1 : fs.length ≤ 65536) (h2 : ∀ f ∈ fs, fok f = true) : fateE fs = 0 := by
  unfold fateE
  rw [if_neg (by omega), if_neg]
  intro h
  obtain ⟨f, hf, h3⟩ := List.any_eq_true.1 h
  rw [h2 f hf] at h3
  cases h3
theorem ftl_ok {x y : Bool} {l : List Sn} (h : ∀ q ∈ l, fok (q.k, q.n) = true) : ∀ f ∈ ftl x y l, fok f = true := fun f hf => by
  obtain ⟨q, hq, rfl⟩ := List.mem_map.1 hf
  exact h q (List.mem_filter.1 hq).1
/-- a message's time and the message -/
def snA (x y : Bool) (A : AN) (q : Sn) : AN := if sel x y q then SendA (itA q.g A) q.i q.d else itA q.g A
def gsum (l : List Sn) : Nat := (l.map (·.g)).sum
theorem gsum_snoc (l : List Sn) (q : Sn) : gsum (l ++ [q]) = gsum l + q.g := by simp [gsum]
theorem postA_now (A : AN) (i : Nat) (d : List UInt8) (n : Nat) : (postA A i d n).now = A.now := by
  unfold postA
  split <;> rfl
theorem sendA_now (A : AN) (i : Nat) (d : List UInt8) (f : Int × Int) : (sendA A i d f).now = A.now := by
  unfold sendA
  (repeat' split) <;> simp only [postA_now]
theorem nextA_now (A : AN) : (nextA A).2.now = A.now := by
  unfold nextA
  split <;> rfl
theorem SendA_now (A : AN) (i : Nat) (d : List UInt8) : (SendA A i d).now = A.now := by
  unfold SendA
  rw [sendA_now, nextA_now]
theorem snA_now (x y : Bool) (A : AN) (q : Sn) : (snA x y A q).now = A.now + q.g := by
  unfold snA
  split
  · rw [SendA_now, itA_now]
  · exact itA_now _ _
/-- the net behind the messages -/
def sdA (x y : Bool) (l : List Sn) : AN := l.foldl (snA x y) ⟨0, ftl x y l, [([], false), ([], false)], []⟩
theorem fold_now (x y : Bool) : ∀ (l : List Sn) (A : AN), (l.foldl (snA x y) A).now = A.now + gsum l
  | [], A => rfl
  | q :: r, A => by
    rw [List.foldl_cons, fold_now x y r, snA_now, show gsum (q :: r) = q.g + gsum r by simp [gsum]]
    omega
theorem gsum_le {l : List Sn} (h : ∀ q ∈ l, q.g < 20) : gsum l ≤ 20 * l.length := by
  induction l with
  | nil => simp [gsum]
  | cons q r ih =>
    have h1 := h q (by simp)
    have h2 := ih (fun q hq => h q (by simp [hq]))
    rw [show gsum (q :: r) = q.g + gsum r by simp [gsum], List.length_cons]
    omega
/-- two lanes that are open -/
abbrev two (S : NS) : Prop := S.ls.map (·.sh) = [false, false]
theorem two_get {S : NS} (h : two S) {i : Nat} (hi : i < 2) : ∃ l, S.ls[i]? = some l ∧ l.sh = false := by
  have hl : i < S.ls.length := by
    have := congrArg List.length h
    simp at this
    omega
  have h1 : (S.ls.map (·.sh))[i]? = some (S.ls[i]).sh := by simp [hl]
  refine ⟨S.ls[i], by simp [hl], ?_⟩
  rw [h] at h1
  rcases i with _ | _ | i
  · simpa using h1.symm
  · simpa using h1.symm
  · omega
theorem LJ.pass {w wr : World} {S : NS} {A : AN} {k : Nat} (h : LJ w wr S A k) (n : Nat) (hn : n ≤ 65536) (hnow : A.now ≤ 2305843009213693952) (hk : k ≤ 1099511627776) (h2 : two S) :
    Calls Try.prog 41 #[.pointer (some ⟨S.nb, 0, none⟩), .int .i64 (n : Int)] wr fun e w' => e = .returned (.int .i64 0) ∧ ∃ S', LJ w w' S' (itA n A) k ∧ S'.nb = S.nb ∧ two S' := by
  refine (Pass_yes wr S n h.ok h.so hn (by rw [h.now]; exact hnow) (by have := h.mn; omega)).mono ?_
  rw [h.ab]
  rintro e w' ⟨rfl, S', h1, h3⟩
  exact ⟨rfl, S', h.st h1, h1.nb, h3.trans h2⟩
theorem LJ.sent {w wr : World} {S : NS} {A : AN} {k : Nat} (h : LJ w wr S A k) (i : Nat) (hi : i < 2) (v : Value) (d : List UInt8) (hd : Sb wr v d) (ho : ∀ g, v.ownBlock = some g → otag wr g = some 5) (hdl : d.length ≤ 1048576) (hn : A.now ≤ 2305843009213693952) (hk : k ≤ 549755813888) (h2 : two S) :
    Calls Try.prog 18 #[.pointer (some ⟨S.nb, 0, none⟩), .int .i64 (i : Int), v] wr fun e w' => e = .returned (.int .i64 0) ∧ ∃ S', LJ w w' S' (SendA A i d) (k + 1) ∧ S'.nb = S.nb ∧ two S' := by
  obtain ⟨l, hl, hs⟩ := two_get h2 hi
  refine (Send_yes wr S i l v d h.ok h.so hl hs hd hdl (fun g hg hk => ?_) (by rw [h.now]; exact hn) (by have := h.mn; omega)).mono ?_
  · have t := ho g hg
    rcases h.ok.tag hk with e | e | e | e | e <;> rw [t] at e <;> cases e
  · rintro e w' ⟨rfl, S', h1, h3⟩
    rw [h.ab] at h1
    exact ⟨rfl, S', h.st h1, h1.nb, h3.trans h2⟩
theorem LJ.more {w wr : World} {S : NS} {A : AN} {k k' : Nat} (h : LJ w wr S A k) (hk : k ≤ k') : LJ w wr S A k' := ⟨h.ok, h.so, h.ab, Nat.le_trans h.mn hk, h.fr, h.up⟩
theorem LJ.base {w0 w wr : World} {S : NS} {A : AN} {k : Nat} (h : LJ w wr S A k) (u : Up w0 w) : LJ w0 wr S A k := ⟨h.ok, h.so, h.ab, h.mn, fun x hx => Nat.le_trans u.size (h.fr x hx), u.trans h.up⟩
/-- a step of one net leaves the other -/
theorem LJ.beside {w wr w2 : World} {S S' T : NS} {A A' B : AN} {N k m k' : Nat} (h : LJ w wr S A k) (g : LJ w wr T B m) (d : ∀ x, own S x → ¬ own T x) (s : Stp N k' wr w2 S S' A') : LJ w w2 T B m ∧ ∀ x, own S' x → ¬ own T x := by
  refine ⟨⟨g.ok.fr s.fr (fun x hx hk => d x hk hx) (fun x hx hk => ?_), g.so, g.ab, g.mn, g.fr, (h.st s).up⟩, fun x hx hT => ?_⟩
  · have t1 := g.ok.tagr hx
    have t2 := h.ok.tag hk
    rcases t1 with t1 | t1 <;> rw [t1] at t2 <;> rcases t2 with t2 | t2 | t2 | t2 | t2 <;> cases t2
  · rcases s.no x hx with h1 | h1
    · exact d x h1 hT
    · have := g.ok.lt hT
      omega
end Go.Proofs.Ytdlfkdehfenemaa
