import Derived.Test.YtaibjeehjhlicaaDoorYbc
namespace Go.Proofs.YtaibjeehjhlicaaDoor
open Go.RowKit Go.Shelf TextNum ModNum
/-- what is done to a row beside the disk leaves the disk -/
theorem DOk.beside {w w' : World} {B D T N n m : Nat} {s : DD} {e : TypeId} {v : Value} {xs : List Value} (h : DOk w B D T s) (r : w.ownsRow N e m v n xs) (hN : 0 < N) (g : w.grownBy w' v.ownBlock) (nn : ∀ k, v.ownBlock = some k → ¬ own D s k) : DOk w' B D T s := by
  have f : Fr (fun k => v.ownBlock = some k) w w' := (Fr.refl (fun k => v.ownBlock = some k) w).by g (fun k hk => .inl hk)
  refine h.fr f (fun b hb hS => nn b hS hb) (fun hS => ?_)
  have := (World.ownsRow.lt r _ hS).1
  omega
theorem wpList_appName {W w : World} {B D T N q : Nat} {s : DD} {ops : Array Oper} {rest : List Oper} {o : Oper} {a : Act} {Q : Exit → Act → World → Prop} (hgd : o.guard = none) (x y : Operand)
    (ho : o.op = .call { callee := .builtin .append, args := #[x, y], argTypes := #[46, 46] }) (ax : Option Addr) (cx : Nat) (nm : List UInt8) (xs : List (List UInt8)) (vk : Value) (ks : List UInt8) (hx : a.eval x = .slice ax q cx) (hy : a.eval y = .slice (some ⟨w.heap.size, 0, none⟩) 1 1)
    (hR : RW w N D s (.slice ax q cx) xs vk ks) (hq : xs.length = q) (hD : DOk w B D T s) (hU : Up W w) (hN : 0 < N) (hW : W.heap.size ≤ N) (hNw : N ≤ w.heap.size) (hql : q ≤ 1048576)
    (K : ∀ ax2 cx2 w', RW w' N D s (.slice ax2 (q + 1) cx2) (xs ++ [nm]) vk ks → DOk w' B D T s → Up W w' → wpList Tryd.prog ops Q rest (a.put o.dst (.slice ax2 (q + 1) cx2)) w') :
    wpList Tryd.prog ops Q (o :: rest) a (w.alloc (.cells #[.string ⟨nm.toArray⟩] 9)) := by
  obtain ⟨i1, hi1, hz0, hz1, hz2⟩ := info_parts Tryd.infoStr
  have HUx := (Up.refl w).alloc (.cells #[.string ⟨nm.toArray⟩] 9)
  have hns : w.ownsRow N 9 1 (.slice ax q cx) q (cst xs) := by have := hR.ns; unfold OwS at this; rw [hq] at this; exact this
  have hnu := ow_up hns HUx
  refine wpList_append_frs hgd x y 46 ho N 9 i1 (.string ⟨#[]⟩) 16 Tryd.underlying46 hi1 hz0 hz1 hz2 rfl (.slice ax q cx) q _ hx hnu ⟨w.heap.size, 0, none⟩ 1 1 [.string ⟨nm.toArray⟩] hy rfl ?_ ?_ (by simp only [maxLen]; omega) (by omega) (Nat.le_trans hNw HUx.size) ?_
  · intro j u hu
    rw [Addr.add_lit]
    exact At.cell (at_new w 9 [.string ⟨nm.toArray⟩]) (i := 0 + j) (by rw [Nat.zero_add]; exact hu)
  · intro u hu
    obtain rfl := List.mem_singleton.1 hu
    rfl
  intro v8 w8 o8 g8 f8
  obtain ⟨ax2, cx2, rfl⟩ := row_len o8
  have hDu := hD.up HUx
  refine K ax2 cx2 w8 ⟨?_, World.ownsRow.kept (ow_up hR.ms HUx) g8 (own_off (ow_up hR.ms HUx) hnu (by decide)), fun k hk ho => ?_, hR.nm⟩ (hDu.beside hnu hN g8 hR.nn) (up_grownBy (hU.trans HUx) g8 (fun g hg => Nat.le_trans hW (World.ownsRow.lt hns g hg).1))
  · unfold OwS
    rw [List.length_append, cst_snoc, hq]
    exact o8
  · rcases f8 k hk with h1 | h1
    · exact hR.nn k h1 ho
    · have := hD.lt ho
      have := HUx.size
      omega
theorem wpList_appMark {W w : World} {B D T N q : Nat} {s : DD} {ops : Array Oper} {rest : List Oper} {o : Oper} {a : Act} {Q : Exit → Act → World → Prop} (hgd : o.guard = none) (x y : Operand)
    (ho : o.op = .call { callee := .builtin .append, args := #[x, y], argTypes := #[27, 27] }) (ak : Option Addr) (ck : Nat) (m : UInt8) (vx : Value) (xs : List (List UInt8)) (ks : List UInt8) (hx : a.eval x = .slice ak q ck) (hy : a.eval y = .slice (some ⟨w.heap.size, 0, none⟩) 1 1)
    (hR : RW w N D s vx xs (.slice ak q ck) ks) (hq : ks.length = q) (hD : DOk w B D T s) (hU : Up W w) (hN : 0 < N) (hW : W.heap.size ≤ N) (hNw : N ≤ w.heap.size) (hql : q ≤ 1048576)
    (K : ∀ ak2 ck2 w', RW w' N D s vx xs (.slice ak2 (q + 1) ck2) (ks ++ [m]) → DOk w' B D T s → Up W w' → wpList Tryd.prog ops Q rest (a.put o.dst (.slice ak2 (q + 1) ck2)) w') :
    wpList Tryd.prog ops Q (o :: rest) a (w.alloc (.cells #[.int .u8 (m.toNat : Int)] 5)) := by
  obtain ⟨i1, hi1, hz0, hz1, hz2⟩ := info_parts Tryd.infoU8
  have HUx := (Up.refl w).alloc (.cells #[.int .u8 (m.toNat : Int)] 5)
  have hms : w.ownsRow N 5 1 (.slice ak q ck) q (cb ks) := by have := hR.ms; unfold Ow at this; rw [hq] at this; exact this
  have hmu := ow_up hms HUx
  refine wpList_append_frs hgd x y 27 ho N 5 i1 (.int .u8 0) 1 Tryd.underlying27 hi1 hz0 hz1 hz2 rfl (.slice ak q ck) q _ hx hmu ⟨w.heap.size, 0, none⟩ 1 1 [.int .u8 (m.toNat : Int)] hy rfl ?_ ?_ (by simp only [maxLen]; omega) (by omega) (Nat.le_trans hNw HUx.size) ?_
  · intro j u hu
    rw [Addr.add_lit]
    exact At.cell (at_new w 5 [.int .u8 (m.toNat : Int)]) (i := 0 + j) (by rw [Nat.zero_add]; exact hu)
  · intro u hu
    obtain rfl := List.mem_singleton.1 hu
    rfl
  intro v8 w8 o8 g8 f8
  obtain ⟨ak2, ck2, rfl⟩ := row_len o8
  have hDu := hD.up HUx
  refine K ak2 ck2 w8 ⟨World.ownsRow.kept (ow_up hR.ns HUx) g8 (own_off (ow_up hR.ns HUx) hmu (by decide)), ?_, hR.nn, fun k hk ho => ?_⟩ (hDu.beside hmu hN g8 hR.nm) (up_grownBy (hU.trans HUx) g8 (fun g hg => Nat.le_trans hW (World.ownsRow.lt hms g hg).1))
  · unfold Ow
    rw [List.length_append, cb_snoc, hq]
    exact o8
  · rcases f8 k hk with h1 | h1
    · exact hR.nm k h1 ho
    · have := hD.lt ho
      have := HUx.size
      omega
theorem usd_one {nf : List (List UInt8 × FL)} (h : ∀ p ∈ nf, p.2.nb = [mkf p] ∧ mkf p ≠ 0) : usd nf = nf.length := by
  unfold usd
  induction nf with
  | nil => rfl
  | cons p r ih =>
    rw [List.map_cons, List.sum_cons, ih (fun q hq => h q (List.mem_cons_of_mem _ hq)), (h p List.mem_cons_self).1, List.length_cons, List.length_cons, List.length_nil]
    omega
theorem usd_drp_le (nf : List (List UInt8 × FL)) (l : List UInt8) (nd : (nf.map (·.1)).Nodup) : usd (drp nf l) ≤ usd nf := by
  have := usd_drp (l := l) nd
  omega
theorem drp_len (nf : List (List UInt8 × FL)) (l : List UInt8) : (drp nf l).length ≤ nf.length := List.length_filter_le _ _
theorem wrF_new {room used : Nat} (h : used + 1 ≤ room) : wrF room used 0 0 1 = 0 := by
  unfold wrF
  rw [if_neg (by omega), if_neg]
  have : gro 0 0 1 = 1 := by decide
  rw [this]
  omega
theorem wr_one (m : UInt8) : wr [] 0 [m] = [m] := rfl
/-- the file that was made last and is written -/
theorem rpl_last {w : World} {B D T : Nat} {s : DD} (h : DOk w B D T s) {pre : List (List UInt8 × FL)} {l : List UInt8} {f : FL} (hn : s.nf = pre ++ [(l, f)]) (f' : FL) : rpl s.nf f.b f' = pre ++ [(l, f')] := by
  have hnd := h.fnd
  unfold fls at hnd
  rw [hn] at hnd
  simp only [List.map_append, List.append_assoc] at hnd
  rw [List.nodup_append] at hnd
  rw [hn]
  refine rpl_split (fun p hp e => ?_) (fun p hp => by cases hp)
  exact hnd.2.2 p.2.b (List.mem_map.2 ⟨p.2, List.mem_map.2 ⟨p, hp, rfl⟩, rfl⟩) f.b (List.mem_append_left _ (by simp)) e
/-- the two steps that make a file of one byte -/
theorem NJ.made {W w w7 w8 w9 : World} {D T F : Nat} {s s7 s9 : DD} {vn vm : Value} {A : List UInt8} {m : UInt8} {f' : FL} (h : NJ W w D T s vn vm) (a7 : Aft w w7 W.heap.size D T s s7) (u8 : Up w7 w8) (a9 : Aft w8 w9 W.heap.size D (T + 2) s7 s9) (e7 : s7.nf = drp s.nf A ++ [(A, fnew F)]) (e9 : s9.nf = rpl s7.nf F f') (hf : f'.nb = [m]) (hm : m ≠ 0) (st : s9.dead = false ∧ s9.unt = 0 ∧ s9.room = 1073741824) :
    DOk w9 W.heap.size D (T + 4) s9 ∧ Up W w9 ∧ (∀ k, own D s9 k → W.heap.size ≤ k) ∧ (s9.dead = false ∧ s9.unt = 0 ∧ s9.room = 1073741824) ∧ s9.nf = drp s.nf A ++ [(A, f')] ∧ (∀ p ∈ s9.nf, p.2.nb = [mkf p] ∧ mkf p ≠ 0) ∧ s9.nf.length ≤ T + 4 := by
  have up7 := up_disk h.up h.lo a7.2.2
  have lo7 := lo_disk h.up h.lo a7.2.1
  have e10 : s9.nf = drp s.nf A ++ [(A, f')] := by rw [e9]; exact rpl_last a7.1 e7 f'
  refine ⟨a9.1, up_disk (up7.trans u8) lo7 a9.2.2, lo_disk (up7.trans u8) lo7 a9.2.1, st, e10, fun p hp => ?_, ?_⟩
  · rw [e10] at hp
    rcases List.mem_append.1 hp with hp | hp
    · exact h.one p (mem_drp.1 hp).1
    · obtain rfl := List.mem_singleton.1 hp
      have : mkf (A, f') = m := by unfold mkf; rw [hf]; rfl
      rw [this]
      exact ⟨hf, hm⟩
  · rw [e10, List.length_append]
    have := drp_len s.nf A
    have := h.len
    simp only [List.length_singleton]
    omega
end Go.Proofs.YtaibjeehjhlicaaDoor
