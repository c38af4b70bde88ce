import Derived.Test.YtaibjeehjhlicaaDoorYay
namespace Go.Proofs.YtaibjeehjhlicaaDoor
open Go.RowKit Go.Shelf TextNum ModNum
/-- one step of a script, as it lies -/
structure OP where
  kd : Int
  d : Int
  nm : ByteArray
  to : ByteArray
  at_ : Int
  e : Int
  v6 : Value
  v7 : Value
  v8 : Value
def opc (o : OP) : List Value := [.int .i64 o.kd, .int .i64 o.d, .string o.nm, .string o.to, .int .i64 o.at_, .int .i64 o.e, o.v6, o.v7, o.v8]
structure OpSl (w : World) (a : Option Addr) (os : List OP) (c : Nat) : Prop where
  cap : os.length ≤ c
  cells : ∀ i (h : i < os.length), ∃ b off, a = some ⟨b, off, none⟩ ∧ w.rangeAt b (off + i * 9) (opc os[i])
  one : ∀ o ∈ os, (opc o).all (·.oneCell') = true
theorem range_up {w w' : World} {p off : Nat} {cs : List Value} (h : w.rangeAt p off cs) (g : Up w w') : w'.rangeAt p off cs := fun j v hv => g.cell (h j v hv)
theorem wpList_val7 {ops : Array Oper} {Q : Exit → Act → World → Prop} {rest : List Oper} {o : Oper} {a : Act} {w : World} (v : Value) (hgd : o.guard = none) (hy : (execOp a.eval o).run Tryd.prog w = .ok (.value v) w)
    (h : wpList Tryd.prog ops Q rest (a.put o.dst v) w) : wpList Tryd.prog ops Q (o :: rest) a w :=
  wpList_plain hgd fun K hK => by
    unfold Oper.wp
    rw [hy]
    exact hK _ _ h
/-- the byte by which a file is known -/
def mkf (p : List UInt8 × FL) : UInt8 := p.2.nb.headD 0
/-- two rows beside the disk -/
structure RW (w : World) (N D : Nat) (s : DD) (vx : Value) (xs : List (List UInt8)) (vk : Value) (ks : List UInt8) : Prop where
  ns : OwS w N vx xs
  ms : Ow w N vk ks
  nn : ∀ k, vx.ownBlock = some k → ¬ own D s k
  nm : ∀ k, vk.ownBlock = some k → ¬ own D s k
theorem RW.up {w w' : World} {N D : Nat} {s : DD} {vx vk : Value} {xs : List (List UInt8)} {ks : List UInt8} (h : RW w N D s vx xs vk ks) (u : Up w w') : RW w' N D s vx xs vk ks := ⟨ow_up h.ns u, ow_up h.ms u, h.nn, h.nm⟩
theorem RW.low {w : World} {N N' D : Nat} {s : DD} {vx vk : Value} {xs : List (List UInt8)} {ks : List UInt8} (h : RW w N D s vx xs vk ks) (hn : N' ≤ N) : RW w N' D s vx xs vk ks := ⟨ow_base h.ns hn, ow_base h.ms hn, h.nn, h.nm⟩
/-- behind a call of the disk -/
theorem RW.disk {w w' : World} {N D : Nat} {s s' : DD} {vx vk : Value} {xs : List (List UInt8)} {ks : List UInt8} (h : RW w N D s vx xs vk ks) (f : Fr (own D s) w w') (n : Nw w.heap.size D s s') : RW w' N D s' vx xs vk ks :=
  ⟨f.own h.ns h.nn, f.own h.ms h.nm, fun k hk ho => by
    rcases n k ho with h1 | h1
    · exact h.nn k hk h1
    · have := (World.ownsRow.lt h.ns k hk).2; omega, fun k hk ho => by
    rcases n k ho with h1 | h1
    · exact h.nm k hk h1
    · have := (World.ownsRow.lt h.ms k hk).2; omega⟩
/-- the rows are the caller's, made since -/
theorem RW.new {w w1 : World} {B N D T : Nat} {s : DD} {vx vk : Value} {xs : List (List UInt8)} {ks : List UInt8} (h : DOk w1 B D T s) (ns : OwS w w1.heap.size vx xs) (mk : Ow w w1.heap.size vk ks) (hn : N ≤ w1.heap.size) : RW w N D s vx xs vk ks :=
  ⟨ow_base ns hn, ow_base mk hn, fun k hk ho => by
    have := (World.ownsRow.lt ns k hk).1; have := h.lt ho; omega, fun k hk ho => by
    have := (World.ownsRow.lt mk k hk).1; have := h.lt ho; omega⟩
/-- what the statement keeps between its steps -/
structure NJ (W w : World) (D T : Nat) (s : DD) (vn vm : Value) : Prop where
  ok : DOk w W.heap.size D T s
  up : Up W w
  lo : ∀ k, own D s k → W.heap.size ≤ k
  st : s.dead = false ∧ s.unt = 0 ∧ s.room = 1073741824
  rw_ : RW w W.heap.size D s vn (s.nf.map (·.1)) vm (s.nf.map mkf)
  one : ∀ p ∈ s.nf, p.2.nb = [mkf p] ∧ mkf p ≠ 0
  len : s.nf.length ≤ T
theorem NJ.upTo {W w w' : World} {D T : Nat} {s : DD} {vn vm : Value} (h : NJ W w D T s vn vm) (u : Up w w') : NJ W w' D T s vn vm := ⟨h.ok.up u, h.up.trans u, h.lo, h.st, h.rw_.up u, h.one, h.len⟩
theorem up_disk {W w w' : World} {D : Nat} {s : DD} (h : Up W w) (lo : ∀ k, own D s k → W.heap.size ≤ k) (f : Fr (own D s) w w') : Up W w' :=
  ⟨f.os.trans h.os, f.tape.trans h.tape, f.output.trans h.output, Nat.le_trans h.size f.size, fun j hj => (f.block j (Nat.lt_of_lt_of_le hj h.size) (fun ho => by have := lo j ho; omega)).trans (h.block j hj)⟩
theorem lo_disk {W w : World} {D : Nat} {s s' : DD} (h : Up W w) (lo : ∀ k, own D s k → W.heap.size ≤ k) (n : Nw w.heap.size D s s') : ∀ k, own D s' k → W.heap.size ≤ k := fun k hk => (n k hk).elim (lo k) (fun h1 => Nat.le_trans h.size h1)
/-- behind an act that leaves the named files -/
theorem NJ.idle {W w w' : World} {D T : Nat} {s : DD} {vn vm : Value} (h : NJ W w D T s vn vm) (a : Aft w w' W.heap.size D T s (acS s)) : NJ W w' D (T + 2) (acS s) vn vm :=
  ⟨a.1, up_disk h.up h.lo a.2.2, lo_disk h.up h.lo a.2.1, ⟨h.st.1, by show s.unt - 1 = 0; have := h.st.2.1; omega, h.st.2.2⟩, h.rw_.disk a.2.2 a.2.1, h.one, by show s.nf.length ≤ T + 2; have := h.len; omega⟩
/-- the names that are kept -/
def flq (a b : List UInt8) (r : Bool) (p : List UInt8 × FL) : Bool := !(p.1 == a) && (!(p.1 == b) || !r)
def mvd (l : List (List UInt8 × FL)) (a : List UInt8) : UInt8 := l.foldl (fun m p => if p.1 == a then mkf p else m) 0
theorem flt_take {l : List (List UInt8 × FL)} {j : Nat} (hj : j < l.length) (q : List UInt8 × FL → Bool) : (l.take (j + 1)).filter q = (l.take j).filter q ++ (if q l[j] = true then [l[j]] else []) := by
  rw [List.take_succ_eq_append_getElem hj, List.filter_append, List.filter_cons]
  split <;> simp
theorem mvd_take {l : List (List UInt8 × FL)} {j : Nat} (hj : j < l.length) (a : List UInt8) : mvd (l.take (j + 1)) a = if l[j].1 == a then mkf l[j] else mvd (l.take j) a := by
  unfold mvd
  rw [List.take_succ_eq_append_getElem hj, List.foldl_append]
  rfl
theorem mvd_snoc (l : List (List UInt8 × FL)) (p : List UInt8 × FL) (a : List UInt8) : mvd (l ++ [p]) a = if p.1 == a then mkf p else mvd l a := by
  unfold mvd
  rw [List.foldl_append]
  rfl
theorem mvd_no {a : List UInt8} : ∀ {l : List (List UInt8 × FL)}, a ∉ l.map (·.1) → mvd l a = 0 := by
  intro l h
  unfold mvd
  suffices H : ∀ m : UInt8, l.foldl (fun m p => if p.1 == a then mkf p else m) m = m from H 0
  induction l with
  | nil => exact fun _ => rfl
  | cons p r ih =>
    intro m
    rw [List.map_cons, List.mem_cons] at h
    have h1 : (p.1 == a) = false := by rw [beq_eq_false_iff_ne]; exact fun e => h (.inl e.symm)
    rw [List.foldl_cons, h1, if_neg (by decide)]
    exact ih (fun hm => h (.inr hm)) m
theorem mvd_yes {a : List UInt8} {xs ys : List (List UInt8 × FL)} {f : FL} (nd : ((xs ++ (a, f) :: ys).map (·.1)).Nodup) : mvd (xs ++ (a, f) :: ys) a = mkf (a, f) := by
  rw [List.map_append, List.map_cons, List.nodup_append, List.nodup_cons] at nd
  have hy : a ∉ ys.map (·.1) := nd.2.1.1
  have h2 : ∀ (m : UInt8), ys.foldl (fun m p => if p.1 == a then mkf p else m) m = m := by
    clear nd
    induction ys with
    | nil => exact fun _ => rfl
    | cons p r ih =>
      intro m
      rw [List.map_cons, List.mem_cons] at hy
      have h1 : (p.1 == a) = false := by rw [beq_eq_false_iff_ne]; exact fun e => hy (.inl e.symm)
      rw [List.foldl_cons, h1, if_neg (by decide)]
      exact ih (fun hm => hy (.inr hm)) m
  unfold mvd
  rw [List.foldl_append, List.foldl_cons, h2]
  simp
theorem flq_drp (nf : List (List UInt8 × FL)) (a b : List UInt8) : nf.filter (flq a b false) = drp nf a := by
  unfold drp
  apply List.filter_congr
  intro p _
  unfold flq
  by_cases h : p.1 = a <;> simp [h]
theorem flq_drp2 (nf : List (List UInt8 × FL)) (a b : List UInt8) : nf.filter (flq a b true) = drp (drp nf a) b := by
  unfold drp
  rw [List.filter_filter]
  apply List.filter_congr
  intro p _
  unfold flq
  by_cases h : p.1 = a <;> by_cases k : p.1 = b <;> simp [h, k]
theorem bs_eq (x y : List UInt8) : ((⟨x.toArray⟩ : ByteArray).toList == (⟨y.toArray⟩ : ByteArray).toList) = (x == y) := by
  rw [ByteArray.toList_eq, ByteArray.toList_eq]
theorem own_get {w : World} {B n : Nat} {e : TypeId} {a : Option Addr} {c : Nat} {xs : List Value} (h : w.ownsRow B e 1 (.slice a n c) n xs) {j : Nat} (hj : j < n) : ∃ g, a = some ⟨g, 0, none⟩ ∧ n ≤ c ∧ ∃ hx : j < xs.length, w.cell? ⟨g, j, none⟩ = some xs[j] := by
  have hl : xs.length = n := by have := h.1; omega
  rcases h.2 with ⟨_, h0⟩ | ⟨g, cap, cur, e1, _, hg, hc, _⟩
  · omega
  · injection e1 with e1 e2 e3
    subst e1 e3
    refine ⟨g, rfl, hc, by omega, ?_⟩
    have := World.ownsRow.cells h rfl j xs[j] (List.getElem?_eq_getElem (by omega))
    rw [Addr.add_lit, Nat.zero_add] at this
    exact this
theorem row_len {w : World} {B n : Nat} {e : TypeId} {v : Value} {xs : List Value} (h : w.ownsRow B e 1 v n xs) : ∃ a c, v = .slice a n c := by
  rcases h.2 with ⟨e1, h0⟩ | ⟨g, cap, cur, e1, _⟩
  · exact ⟨none, 0, by rw [e1, h0]⟩
  · exact ⟨_, cap, e1⟩
theorem own_off {w : World} {B B' n n' m m' : Nat} {e e' : TypeId} {v v' : Value} {xs xs' : List Value} (h : w.ownsRow B e m v n xs) (k : w.ownsRow B' e' m' v' n' xs') (ht : e ≠ e') : v.ownBlock = none ∨ v.ownBlock ≠ v'.ownBlock := by
  cases hv : v.ownBlock with
  | none => exact .inl rfl
  | some g => exact .inr (fun e0 => own_apart h k ht hv e0.symm)
theorem cst_snoc (xs : List (List UInt8)) (x : List UInt8) : cst (xs ++ [x]) = cst xs ++ [.string ⟨x.toArray⟩] := by simp [cst]
theorem cb_snoc (xs : List UInt8) (x : UInt8) : cb (xs ++ [x]) = cb xs ++ [.int .u8 (x.toNat : Int)] := by simp [cb]
end Go.Proofs.YtaibjeehjhlicaaDoor
