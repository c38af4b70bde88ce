import Derived.Test.YtepakbghhnkcfaaDoorGr
namespace Go.Proofs.YtepakbghhnkcfaaDoor
open Go.RowKit Go.Shelf TextNum ModNum
/-- one step of a script, as it lies -/
structure OP where
  kd : Int
  d : Int
  nm : ByteArray
  to : ByteArray
  at_ : Int
  e : Int
  v6 : Value
  v7 : Value
  v8 : Value
def opc (o : OP) : List Value := [.int .i64 o.kd, .int .i64 o.d, .string o.nm, .string o.to, .int .i64 o.at_, .int .i64 o.e, o.v6, o.v7, o.v8]
structure OpSl (w : World) (a : Option Addr) (os : List OP) (c : Nat) : Prop where
  cap : os.length ≤ c
  cells : ∀ i (h : i < os.length), ∃ b off, a = some ⟨b, off, none⟩ ∧ w.rangeAt b (off + i * 9) (opc os[i])
  one : ∀ o ∈ os, (opc o).all (·.oneCell') = true
set_option maxRecDepth 100000 in
theorem infoOp : (Tryd.prog.info? 44).map (·.size) = some 9 := by kernel_rfl
theorem range_up {w w' : World} {p off : Nat} {cs : List Value} (h : w.rangeAt p off cs) (g : Up w w') : w'.rangeAt p off cs := fun j v hv => g.cell (h j v hv)
theorem exec_idxOp {o : Oper} {ρ : Operand → Value} {x y : Operand} {w : World} {b off n c : Nat} (i : Nat) (hi : i < n) (ho : o.op = .indexAddr 39 x y) (hx : ρ x = .slice (some ⟨b, off, none⟩) n c) (hy : ρ y = .int .i64 (i : Int)) : (execOp ρ o).run Tryd.prog w = .ok (.value (.pointer (some ⟨b, off + i * 9, none⟩))) w := by
  have hi' : (i : Int) < (n : Int) := by omega
  unfold execOp
  simp only [ho, hx, hy]
  go_simp
theorem wpList_val7 {ops : Array Oper} {Q : Exit → Act → World → Prop} {rest : List Oper} {o : Oper} {a : Act} {w : World} (v : Value) (hgd : o.guard = none) (hy : (execOp a.eval o).run Tryd.prog w = .ok (.value v) w)
    (h : wpList Tryd.prog ops Q rest (a.put o.dst v) w) : wpList Tryd.prog ops Q (o :: rest) a w :=
  wpList_plain hgd fun K hK => by
    unfold Oper.wp
    rw [hy]
    exact hK _ _ h
/-- the byte by which a file is known -/
def mkf (p : List UInt8 × FL) : UInt8 := p.2.nb.headD 0
/-- two rows beside the disk -/
structure RW (w : World) (N D : Nat) (s : DD) (vx : Value) (xs : List (List UInt8)) (vk : Value) (ks : List UInt8) : Prop where
  ns : OwS w N vx xs
  ms : Ow w N vk ks
  nn : ∀ k, vx.ownBlock = some k → ¬ own D s k
  nm : ∀ k, vk.ownBlock = some k → ¬ own D s k
theorem RW.up {w w' : World} {N D : Nat} {s : DD} {vx vk : Value} {xs : List (List UInt8)} {ks : List UInt8} (h : RW w N D s vx xs vk ks) (u : Up w w') : RW w' N D s vx xs vk ks := ⟨ow_up h.ns u, ow_up h.ms u, h.nn, h.nm⟩
theorem RW.low {w : World} {N N' D : Nat} {s : DD} {vx vk : Value} {xs : List (List UInt8)} {ks : List UInt8} (h : RW w N D s vx xs vk ks) (hn : N' ≤ N) : RW w N' D s vx xs vk ks := ⟨ow_base h.ns hn, ow_base h.ms hn, h.nn, h.nm⟩
/-- behind a call of the disk -/
theorem RW.disk {w w' : World} {N D : Nat} {s s' : DD} {vx vk : Value} {xs : List (List UInt8)} {ks : List UInt8} (h : RW w N D s vx xs vk ks) (f : Fr (own D s) w w') (n : Nw w.heap.size D s s') : RW w' N D s' vx xs vk ks :=
  ⟨f.own h.ns h.nn, f.own h.ms h.nm, fun k hk ho => by
    rcases n k ho with h1 | h1
    · exact h.nn k hk h1
    · have := (World.ownsRow.lt h.ns k hk).2; omega, fun k hk ho => by
    rcases n k ho with h1 | h1
    · exact h.nm k hk h1
    · have := (World.ownsRow.lt h.ms k hk).2; omega⟩
/-- the rows are the caller's, made since -/
theorem RW.new {w w1 : World} {B N D T : Nat} {s : DD} {vx vk : Value} {xs : List (List UInt8)} {ks : List UInt8} (h : DOk w1 B D T s) (ns : OwS w w1.heap.size vx xs) (mk : Ow w w1.heap.size vk ks) (hn : N ≤ w1.heap.size) : RW w N D s vx xs vk ks :=
  ⟨ow_base ns hn, ow_base mk hn, fun k hk ho => by
    have := (World.ownsRow.lt ns k hk).1; have := h.lt ho; omega, fun k hk ho => by
    have := (World.ownsRow.lt mk k hk).1; have := h.lt ho; omega⟩
/-- what the statement keeps between its steps -/
structure NJ (W w : World) (D T : Nat) (s : DD) (vn vm : Value) : Prop where
  ok : DOk w W.heap.size D T s
  up : Up W w
  lo : ∀ k, own D s k → W.heap.size ≤ k
  st : s.dead = false ∧ s.unt = 0 ∧ s.room = 1073741824
  rw_ : RW w W.heap.size D s vn (s.nf.map (·.1)) vm (s.nf.map mkf)
  one : ∀ p ∈ s.nf, p.2.nb = [mkf p] ∧ mkf p ≠ 0
  len : s.nf.length ≤ T
theorem NJ.upTo {W w w' : World} {D T : Nat} {s : DD} {vn vm : Value} (h : NJ W w D T s vn vm) (u : Up w w') : NJ W w' D T s vn vm := ⟨h.ok.up u, h.up.trans u, h.lo, h.st, h.rw_.up u, h.one, h.len⟩
theorem up_disk {W w w' : World} {D : Nat} {s : DD} (h : Up W w) (lo : ∀ k, own D s k → W.heap.size ≤ k) (f : Fr (own D s) w w') : Up W w' :=
  ⟨f.os.trans h.os, f.tape.trans h.tape, f.output.trans h.output, Nat.le_trans h.size f.size, fun j hj => (f.block j (Nat.lt_of_lt_of_le hj h.size) (fun ho => by have := lo j ho; omega)).trans (h.block j hj)⟩
theorem lo_disk {W w : World} {D : Nat} {s s' : DD} (h : Up W w) (lo : ∀ k, own D s k → W.heap.size ≤ k) (n : Nw w.heap.size D s s') : ∀ k, own D s' k → W.heap.size ≤ k := fun k hk => (n k hk).elim (lo k) (fun h1 => Nat.le_trans h.size h1)
/-- behind an act that leaves the named files -/
theorem NJ.idle {W w w' : World} {D T : Nat} {s : DD} {vn vm : Value} (h : NJ W w D T s vn vm) (a : Aft w w' W.heap.size D T s (acS s)) : NJ W w' D (T + 2) (acS s) vn vm :=
  ⟨a.1, up_disk h.up h.lo a.2.2, lo_disk h.up h.lo a.2.1, ⟨h.st.1, by show s.unt - 1 = 0; have := h.st.2.1; omega, h.st.2.2⟩, h.rw_.disk a.2.2 a.2.1, h.one, by show s.nf.length ≤ T + 2; have := h.len; omega⟩
/-- the names that are kept -/
def flq (a b : List UInt8) (r : Bool) (p : List UInt8 × FL) : Bool := !(p.1 == a) && (!(p.1 == b) || !r)
def mvd (l : List (List UInt8 × FL)) (a : List UInt8) : UInt8 := l.foldl (fun m p => if p.1 == a then mkf p else m) 0
theorem flt_take {l : List (List UInt8 × FL)} {j : Nat} (hj : j < l.length) (q : List UInt8 × FL → Bool) : (l.take (j + 1)).filter q = (l.take j).filter q ++ (if q l[j] = true then [l[j]] else []) := by
  rw [List.take_succ_eq_append_getElem hj, List.filter_append, List.filter_cons]
  split <;> simp
theorem mvd_take {l : List (List UInt8 × FL)} {j : Nat} (hj : j < l.length) (a : List UInt8) : mvd (l.take (j + 1)) a = if l[j].1 == a then mkf l[j] else mvd (l.take j) a := by
  unfold mvd
  rw [List.take_succ_eq_append_getElem hj, List.foldl_append]
  rfl
theorem mvd_snoc (l : List (List UInt8 × FL)) (p : List UInt8 × FL) (a : List UInt8) : mvd (l ++ [p]) a = if p.1 == a then mkf p else mvd l a := by
  unfold mvd
  rw [List.foldl_append]
  rfl
theorem mvd_no {a : List UInt8} : ∀ {l : List (List UInt8 × FL)}, a ∉ l.map (·.1) → mvd l a = 0 := by
  intro l h
  unfold mvd
  suffices H : ∀ m : UInt8, l.foldl (fun m p => if p.1 == a then mkf p else m) m = m from H 0
  induction l with
  | nil => exact fun _ => rfl
  | cons p r ih =>
    intro m
    rw [List.map_cons, List.mem_cons] at h
    have h1 : (p.1 == a) = false := by rw [beq_eq_false_iff_ne]; exact fun e => h (.inl e.symm)
    rw [List.foldl_cons, h1, if_neg (by decide)]
    exact ih (fun hm => h (.inr hm)) m
theorem mvd_yes {a : List UInt8} {xs ys : List (List UInt8 × FL)} {f : FL} (nd : ((xs ++ (a, f) :: ys).map (·.1)).Nodup) : mvd (xs ++ (a, f) :: ys) a = mkf (a, f) := by
  rw [List.map_append, List.map_cons, List.nodup_append, List.nodup_cons] at nd
  have hy : a ∉ ys.map (·.1) := nd.2.1.1
  have h2 : ∀ (m : UInt8), ys.foldl (fun m p => if p.1 == a then mkf p else m) m = m := by
    clear nd
    induction ys with
    | nil => exact fun _ => rfl
    | cons p r ih =>
      intro m
      rw [List.map_cons, List.mem_cons] at hy
      have h1 : (p.1 == a) = false := by rw [beq_eq_false_iff_ne]; exact fun e => hy (.inl e.symm)
      rw [List.foldl_cons, h1, if_neg (by decide)]
      exact ih (fun hm => hy (.inr hm)) m
  unfold mvd
  rw [List.foldl_append, List.foldl_cons, h2]
  simp
theorem flq_drp (nf : List (List UInt8 × FL)) (a b : List UInt8) : nf.filter (flq a b false) = drp nf a := by
  unfold drp
  apply List.filter_congr
  intro p _
  unfold flq
  by_cases h : p.1 = a <;> simp [h]
theorem flq_drp2 (nf : List (List UInt8 × FL)) (a b : List UInt8) : nf.filter (flq a b true) = drp (drp nf a) b := by
  unfold drp
  rw [List.filter_filter]
  apply List.filter_congr
  intro p _
  unfold flq
  by_cases h : p.1 = a <;> by_cases k : p.1 = b <;> simp [h, k]
theorem bs_eq (x y : List UInt8) : ((⟨x.toArray⟩ : ByteArray).toList == (⟨y.toArray⟩ : ByteArray).toList) = (x == y) := by
  rw [ByteArray.toList_eq, ByteArray.toList_eq]
theorem own_get {w : World} {B n : Nat} {e : TypeId} {a : Option Addr} {c : Nat} {xs : List Value} (h : w.ownsRow B e 1 (.slice a n c) n xs) {j : Nat} (hj : j < n) : ∃ g, a = some ⟨g, 0, none⟩ ∧ n ≤ c ∧ ∃ hx : j < xs.length, w.cell? ⟨g, j, none⟩ = some xs[j] := by
  have hl : xs.length = n := by have := h.1; omega
  rcases h.2 with ⟨_, h0⟩ | ⟨g, cap, cur, e1, _, hg, hc, _⟩
  · omega
  · injection e1 with e1 e2 e3
    subst e1 e3
    refine ⟨g, rfl, hc, by omega, ?_⟩
    have := World.ownsRow.cells h rfl j xs[j] (List.getElem?_eq_getElem (by omega))
    rw [Addr.add_lit, Nat.zero_add] at this
    exact this
theorem row_len {w : World} {B n : Nat} {e : TypeId} {v : Value} {xs : List Value} (h : w.ownsRow B e 1 v n xs) : ∃ a c, v = .slice a n c := by
  rcases h.2 with ⟨e1, h0⟩ | ⟨g, cap, cur, e1, _⟩
  · exact ⟨none, 0, by rw [e1, h0]⟩
  · exact ⟨_, cap, e1⟩
theorem own_off {w : World} {B B' n n' m m' : Nat} {e e' : TypeId} {v v' : Value} {xs xs' : List Value} (h : w.ownsRow B e m v n xs) (k : w.ownsRow B' e' m' v' n' xs') (ht : e ≠ e') : v.ownBlock = none ∨ v.ownBlock ≠ v'.ownBlock := by
  cases hv : v.ownBlock with
  | none => exact .inl rfl
  | some g => exact .inr (fun e0 => own_apart h k ht hv e0.symm)
theorem cst_snoc (xs : List (List UInt8)) (x : List UInt8) : cst (xs ++ [x]) = cst xs ++ [.string ⟨x.toArray⟩] := by simp [cst]
theorem cb_snoc (xs : List UInt8) (x : UInt8) : cb (xs ++ [x]) = cb xs ++ [.int .u8 (x.toNat : Int)] := by simp [cb]
end Go.Proofs.YtepakbghhnkcfaaDoor
namespace Go.Proofs.YtepakbghhnkcfaaDoor
open Go.RowKit Go.Shelf TextNum ModNum
/-- what is done to a row beside the disk leaves the disk -/
theorem DOk.beside {w w' : World} {B D T N n m : Nat} {s : DD} {e : TypeId} {v : Value} {xs : List Value} (h : DOk w B D T s) (r : w.ownsRow N e m v n xs) (hN : 0 < N) (g : w.grownBy w' v.ownBlock) (nn : ∀ k, v.ownBlock = some k → ¬ own D s k) : DOk w' B D T s := by
  have f : Fr (fun k => v.ownBlock = some k) w w' := (Fr.refl (fun k => v.ownBlock = some k) w).by g (fun k hk => .inl hk)
  refine h.fr f (fun b hb hS => nn b hS hb) (fun hS => ?_)
  have := (World.ownsRow.lt r _ hS).1
  omega
theorem wpList_appName {W w : World} {B D T N q : Nat} {s : DD} {ops : Array Oper} {rest : List Oper} {o : Oper} {a : Act} {Q : Exit → Act → World → Prop} (hgd : o.guard = none) (x y : Operand)
    (ho : o.op = .call { callee := .builtin .append, args := #[x, y], argTypes := #[40, 40] }) (ax : Option Addr) (cx : Nat) (nm : List UInt8) (xs : List (List UInt8)) (vk : Value) (ks : List UInt8) (hx : a.eval x = .slice ax q cx) (hy : a.eval y = .slice (some ⟨w.heap.size, 0, none⟩) 1 1)
    (hR : RW w N D s (.slice ax q cx) xs vk ks) (hq : xs.length = q) (hD : DOk w B D T s) (hU : Up W w) (hN : 0 < N) (hW : W.heap.size ≤ N) (hNw : N ≤ w.heap.size) (hql : q ≤ 1048576)
    (K : ∀ ax2 cx2 w', RW w' N D s (.slice ax2 (q + 1) cx2) (xs ++ [nm]) vk ks → DOk w' B D T s → Up W w' → wpList Tryd.prog ops Q rest (a.put o.dst (.slice ax2 (q + 1) cx2)) w') :
    wpList Tryd.prog ops Q (o :: rest) a (w.alloc (.cells #[.string ⟨nm.toArray⟩] 9)) := by
  obtain ⟨i1, hi1, hz0, hz1, hz2⟩ := info_parts Tryd.infoStr
  have HUx := (Up.refl w).alloc (.cells #[.string ⟨nm.toArray⟩] 9)
  have hns : w.ownsRow N 9 1 (.slice ax q cx) q (cst xs) := by have := hR.ns; unfold OwS at this; rw [hq] at this; exact this
  have hnu := ow_up hns HUx
  refine wpList_append_frs hgd x y 40 ho N 9 i1 (.string ⟨#[]⟩) 16 Tryd.underlying40 hi1 hz0 hz1 hz2 rfl (.slice ax q cx) q _ hx hnu ⟨w.heap.size, 0, none⟩ 1 1 [.string ⟨nm.toArray⟩] hy rfl ?_ ?_ (by simp only [maxLen]; omega) (by omega) (Nat.le_trans hNw HUx.size) ?_
  · intro j u hu
    rw [Addr.add_lit]
    exact At.cell (at_new w 9 [.string ⟨nm.toArray⟩]) (i := 0 + j) (by rw [Nat.zero_add]; exact hu)
  · intro u hu
    obtain rfl := List.mem_singleton.1 hu
    rfl
  intro v8 w8 o8 g8 f8
  obtain ⟨ax2, cx2, rfl⟩ := row_len o8
  have hDu := hD.up HUx
  refine K ax2 cx2 w8 ⟨?_, World.ownsRow.kept (ow_up hR.ms HUx) g8 (own_off (ow_up hR.ms HUx) hnu (by decide)), fun k hk ho => ?_, hR.nm⟩ (hDu.beside hnu hN g8 hR.nn) (up_grownBy (hU.trans HUx) g8 (fun g hg => Nat.le_trans hW (World.ownsRow.lt hns g hg).1))
  · unfold OwS
    rw [List.length_append, cst_snoc, hq]
    exact o8
  · rcases f8 k hk with h1 | h1
    · exact hR.nn k h1 ho
    · have := hD.lt ho
      have := HUx.size
      omega
theorem wpList_appMark {W w : World} {B D T N q : Nat} {s : DD} {ops : Array Oper} {rest : List Oper} {o : Oper} {a : Act} {Q : Exit → Act → World → Prop} (hgd : o.guard = none) (x y : Operand)
    (ho : o.op = .call { callee := .builtin .append, args := #[x, y], argTypes := #[29, 29] }) (ak : Option Addr) (ck : Nat) (m : UInt8) (vx : Value) (xs : List (List UInt8)) (ks : List UInt8) (hx : a.eval x = .slice ak q ck) (hy : a.eval y = .slice (some ⟨w.heap.size, 0, none⟩) 1 1)
    (hR : RW w N D s vx xs (.slice ak q ck) ks) (hq : ks.length = q) (hD : DOk w B D T s) (hU : Up W w) (hN : 0 < N) (hW : W.heap.size ≤ N) (hNw : N ≤ w.heap.size) (hql : q ≤ 1048576)
    (K : ∀ ak2 ck2 w', RW w' N D s vx xs (.slice ak2 (q + 1) ck2) (ks ++ [m]) → DOk w' B D T s → Up W w' → wpList Tryd.prog ops Q rest (a.put o.dst (.slice ak2 (q + 1) ck2)) w') :
    wpList Tryd.prog ops Q (o :: rest) a (w.alloc (.cells #[.int .u8 (m.toNat : Int)] 5)) := by
  obtain ⟨i1, hi1, hz0, hz1, hz2⟩ := info_parts Tryd.infoU8
  have HUx := (Up.refl w).alloc (.cells #[.int .u8 (m.toNat : Int)] 5)
  have hms : w.ownsRow N 5 1 (.slice ak q ck) q (cb ks) := by have := hR.ms; unfold Ow at this; rw [hq] at this; exact this
  have hmu := ow_up hms HUx
  refine wpList_append_frs hgd x y 29 ho N 5 i1 (.int .u8 0) 1 Tryd.underlying29 hi1 hz0 hz1 hz2 rfl (.slice ak q ck) q _ hx hmu ⟨w.heap.size, 0, none⟩ 1 1 [.int .u8 (m.toNat : Int)] hy rfl ?_ ?_ (by simp only [maxLen]; omega) (by omega) (Nat.le_trans hNw HUx.size) ?_
  · intro j u hu
    rw [Addr.add_lit]
    exact At.cell (at_new w 5 [.int .u8 (m.toNat : Int)]) (i := 0 + j) (by rw [Nat.zero_add]; exact hu)
  · intro u hu
    obtain rfl := List.mem_singleton.1 hu
    rfl
  intro v8 w8 o8 g8 f8
  obtain ⟨ak2, ck2, rfl⟩ := row_len o8
  have hDu := hD.up HUx
  refine K ak2 ck2 w8 ⟨World.ownsRow.kept (ow_up hR.ns HUx) g8 (own_off (ow_up hR.ns HUx) hmu (by decide)), ?_, hR.nn, fun k hk ho => ?_⟩ (hDu.beside hmu hN g8 hR.nm) (up_grownBy (hU.trans HUx) g8 (fun g hg => Nat.le_trans hW (World.ownsRow.lt hms g hg).1))
  · unfold Ow
    rw [List.length_append, cb_snoc, hq]
    exact o8
  · rcases f8 k hk with h1 | h1
    · exact hR.nm k h1 ho
    · have := hD.lt ho
      have := HUx.size
      omega
theorem usd_one {nf : List (List UInt8 × FL)} (h : ∀ p ∈ nf, p.2.nb = [mkf p] ∧ mkf p ≠ 0) : usd nf = nf.length := by
  unfold usd
  induction nf with
  | nil => rfl
  | cons p r ih =>
    rw [List.map_cons, List.sum_cons, ih (fun q hq => h q (List.mem_cons_of_mem _ hq)), (h p List.mem_cons_self).1, List.length_cons, List.length_cons, List.length_nil]
    omega
theorem usd_drp_le (nf : List (List UInt8 × FL)) (l : List UInt8) (nd : (nf.map (·.1)).Nodup) : usd (drp nf l) ≤ usd nf := by
  have := usd_drp (l := l) nd
  omega
theorem drp_len (nf : List (List UInt8 × FL)) (l : List UInt8) : (drp nf l).length ≤ nf.length := List.length_filter_le _ _
theorem wrF_new {room used : Nat} (h : used + 1 ≤ room) : wrF room used 0 0 1 = 0 := by
  unfold wrF
  rw [if_neg (by omega), if_neg]
  have : gro 0 0 1 = 1 := by decide
  rw [this]
  omega
theorem wr_one (m : UInt8) : wr [] 0 [m] = [m] := rfl
/-- the file that was made last and is written -/
theorem rpl_last {w : World} {B D T : Nat} {s : DD} (h : DOk w B D T s) {pre : List (List UInt8 × FL)} {l : List UInt8} {f : FL} (hn : s.nf = pre ++ [(l, f)]) (f' : FL) : rpl s.nf f.b f' = pre ++ [(l, f')] := by
  have hnd := h.fnd
  unfold fls at hnd
  rw [hn] at hnd
  simp only [List.map_append, List.append_assoc] at hnd
  rw [List.nodup_append] at hnd
  rw [hn]
  refine rpl_split (fun p hp e => ?_) (fun p hp => by cases hp)
  exact hnd.2.2 p.2.b (List.mem_map.2 ⟨p.2, List.mem_map.2 ⟨p, hp, rfl⟩, rfl⟩) f.b (List.mem_append_left _ (by simp)) e
/-- the two steps that make a file of one byte -/
theorem NJ.made {W w w7 w8 w9 : World} {D T F : Nat} {s s7 s9 : DD} {vn vm : Value} {A : List UInt8} {m : UInt8} {f' : FL} (h : NJ W w D T s vn vm) (a7 : Aft w w7 W.heap.size D T s s7) (u8 : Up w7 w8) (a9 : Aft w8 w9 W.heap.size D (T + 2) s7 s9) (e7 : s7.nf = drp s.nf A ++ [(A, fnew F)]) (e9 : s9.nf = rpl s7.nf F f') (hf : f'.nb = [m]) (hm : m ≠ 0) (st : s9.dead = false ∧ s9.unt = 0 ∧ s9.room = 1073741824) :
    DOk w9 W.heap.size D (T + 4) s9 ∧ Up W w9 ∧ (∀ k, own D s9 k → W.heap.size ≤ k) ∧ (s9.dead = false ∧ s9.unt = 0 ∧ s9.room = 1073741824) ∧ s9.nf = drp s.nf A ++ [(A, f')] ∧ (∀ p ∈ s9.nf, p.2.nb = [mkf p] ∧ mkf p ≠ 0) ∧ s9.nf.length ≤ T + 4 := by
  have up7 := up_disk h.up h.lo a7.2.2
  have lo7 := lo_disk h.up h.lo a7.2.1
  have e10 : s9.nf = drp s.nf A ++ [(A, f')] := by rw [e9]; exact rpl_last a7.1 e7 f'
  refine ⟨a9.1, up_disk (up7.trans u8) lo7 a9.2.2, lo_disk (up7.trans u8) lo7 a9.2.1, st, e10, fun p hp => ?_, ?_⟩
  · rw [e10] at hp
    rcases List.mem_append.1 hp with hp | hp
    · exact h.one p (mem_drp.1 hp).1
    · obtain rfl := List.mem_singleton.1 hp
      have : mkf (A, f') = m := by unfold mkf; rw [hf]; rfl
      rw [this]
      exact ⟨hf, hm⟩
  · rw [e10, List.length_append]
    have := drp_len s.nf A
    have := h.len
    simp only [List.length_singleton]
    omega
end Go.Proofs.YtepakbghhnkcfaaDoor
namespace Go.Proofs.YtepakbghhnkcfaaDoor
open Go.RowKit Go.Shelf TextNum ModNum
theorem lsN_all (nf : List (List UInt8 × FL)) : lsN nf [] = srt (nf.map (·.1)) := by
  unfold lsN
  rw [List.filter_eq_self.2]
  intro a _
  rfl
theorem srt_len (xs : List (List UInt8)) : (srt xs).length = xs.length := (srt_perm xs).length_eq
/-- sorted, and each once: rising -/
theorem srt_lt {xs : List (List UInt8)} (nd : xs.Nodup) {i : Nat} (hi : i + 1 < (srt xs).length) : (srt xs)[i] < (srt xs)[i + 1] := by
  have h1 := List.pairwise_iff_getElem.1 (srt_pw xs) i (i + 1) (by omega) hi (by omega)
  have h2 : (srt xs).Nodup := (srt_perm xs).nodup_iff.2 nd
  have h3 := List.pairwise_iff_getElem.1 h2 i (i + 1) (by omega) hi (by omega)
  exact Std.lt_of_le_of_ne h1 h3
theorem srt_mem {xs : List (List UInt8)} {l : List UInt8} : l ∈ srt xs ↔ l ∈ xs := (srt_perm xs).mem_iff
theorem lsN_len (nf : List (List UInt8 × FL)) (p : List UInt8) : (lsN nf p).length = ((srt (nf.map (·.1))).filter fun l => pfx p l).length := by
  unfold lsN
  rw [srt_len]
  exact ((srt_perm _).filter _).length_eq.symm
theorem lsN_pfx {nf : List (List UInt8 × FL)} {p l : List UInt8} (h : l ∈ lsN nf p) : pfx p l = true := (List.mem_filter.1 (srt_mem.1 h)).2
theorem pfx_iff (p x : List UInt8) : pfx p x = true ↔ p.length ≤ x.length ∧ x.take p.length = p := by
  unfold pfx
  rw [List.isPrefixOf_iff_prefix, List.prefix_iff_eq_take]
  constructor
  · intro h
    exact ⟨by rw [h, List.length_take]; omega, h.symm⟩
  · exact fun h => h.2.symm
theorem ext_take (x : List UInt8) (p : ByteArray) : ((⟨x.toArray⟩ : ByteArray).extract 0 p.size).toList = x.take p.size := by
  rw [ByteArray.toList_eq]
  simp [ByteArray.data_extract]
/-- the three ways of a beginning -/
theorem pfx_ways (px : ByteArray) (x : List UInt8) : (pfx px.data.toList x = true ∧ px.size ≤ x.length ∧ (((⟨x.toArray⟩ : ByteArray).extract 0 px.size).toList == px.toList) = true) ∨ (pfx px.data.toList x = false ∧ ((px.size ≤ x.length ∧ (((⟨x.toArray⟩ : ByteArray).extract 0 px.size).toList == px.toList) = false) ∨ ¬ px.size ≤ x.length)) := by
  have hs : px.data.toList.length = px.size := (Go.Lib.size_eq px).symm
  rw [ext_take, ByteArray.toList_eq]
  by_cases h : pfx px.data.toList x = true
  · have h2 := (pfx_iff _ _).1 h
    rw [hs] at h2
    exact .inl ⟨h, h2.1, by rw [beq_iff_eq]; exact h2.2⟩
  · refine .inr ⟨by simpa using h, ?_⟩
    by_cases h3 : px.size ≤ x.length
    · refine .inl ⟨h3, ?_⟩
      rw [beq_eq_false_iff_ne]
      intro h4
      exact h ((pfx_iff _ _).2 (by rw [hs]; exact ⟨h3, h4⟩))
    · exact .inr h3
theorem few_take {Ls : List (List UInt8)} {i : Nat} (hi : i < Ls.length) (p : List UInt8) : ((Ls.take (i + 1)).filter fun l => pfx p l).length = ((Ls.take i).filter fun l => pfx p l).length + (if pfx p Ls[i] = true then 1 else 0) := by
  rw [List.take_succ_eq_append_getElem hi, List.filter_append, List.length_append, List.filter_cons]
  split <;> simp
end Go.Proofs.YtepakbghhnkcfaaDoor
