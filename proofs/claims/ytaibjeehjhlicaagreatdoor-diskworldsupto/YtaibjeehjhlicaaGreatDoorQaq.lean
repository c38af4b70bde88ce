import Derived.Test.YtaibjeehjhlicaaGreatDoorQap
namespace Go.Proofs.YtaibjeehjhlicaaGreatDoor
open Go.RowKit Go.Shelf TextNum ModNum
/-- what is done to a row beside the disk leaves the disk -/
theorem DOk.beside {w w' : World} {B D T N n m : Nat} {s : DD} {e : TypeId} {v : Value} {xs : List Value} (h : DOk w B D T s) (r : w.ownsRow N e m v n xs) (hN : 0 < N) (g : w.grownBy w' v.ownBlock) (nn : ∀ k, v.ownBlock = some k → ¬ own D s k) : DOk w' B D T s := by
  have f : Fr (fun k => v.ownBlock = some k) w w' := (Fr.refl (fun k => v.ownBlock = some k) w).by g (fun k hk => .inl hk)
  refine h.fr f (fun b hb hS => nn b hS hb) (fun hS => ?_)
  have := (World.ownsRow.lt r _ hS).1
  omega
theorem wpList_appName {W w : World} {B D T N q : Nat} {s : DD} {ops : Array Oper} {rest : List Oper} {o : Oper} {a : Act} {Q : Exit → Act → World → Prop} (hgd : o.guard = none) (x y : Operand)
    (ho : o.op = .call { callee := .builtin .append, args := #[x, y], argTypes := #[29, 29] }) (ax : Option Addr) (cx : Nat) (nm : List UInt8) (xs : List (List UInt8)) (vk : Value) (ks : List UInt8) (hx : a.eval x = .slice ax q cx) (hy : a.eval y = .slice (some ⟨w.heap.size, 0, none⟩) 1 1)
    (hR : RW w N D s (.slice ax q cx) xs vk ks) (hq : xs.length = q) (hD : DOk w B D T s) (hU : Up W w) (hN : 0 < N) (hW : W.heap.size ≤ N) (hNw : N ≤ w.heap.size) (hql : q ≤ 1048576)
    (K : ∀ ax2 cx2 w', RW w' N D s (.slice ax2 (q + 1) cx2) (xs ++ [nm]) vk ks → DOk w' B D T s → Up W w' → wpList Tryz.prog ops Q rest (a.put o.dst (.slice ax2 (q + 1) cx2)) w') :
    wpList Tryz.prog ops Q (o :: rest) a (w.alloc (.cells #[.string ⟨nm.toArray⟩] 9)) := by
  obtain ⟨i1, hi1, hz0, hz1, hz2⟩ := info_parts Tryz.infoStr
  have HUx := (Up.refl w).alloc (.cells #[.string ⟨nm.toArray⟩] 9)
  have hns : w.ownsRow N 9 1 (.slice ax q cx) q (cst xs) := by have := hR.ns; unfold OwS at this; rw [hq] at this; exact this
  have hnu := ow_up hns HUx
  refine wpList_append_frs hgd x y 29 ho N 9 i1 (.string ⟨#[]⟩) 16 Tryz.underlying29 hi1 hz0 hz1 hz2 rfl (.slice ax q cx) q _ hx hnu ⟨w.heap.size, 0, none⟩ 1 1 [.string ⟨nm.toArray⟩] hy rfl ?_ ?_ (by simp only [maxLen]; omega) (by omega) (Nat.le_trans hNw HUx.size) ?_
  · intro j u hu
    rw [Addr.add_lit]
    exact At.cell (at_new w 9 [.string ⟨nm.toArray⟩]) (i := 0 + j) (by rw [Nat.zero_add]; exact hu)
  · intro u hu
    obtain rfl := List.mem_singleton.1 hu
    rfl
  intro v8 w8 o8 g8 f8
  obtain ⟨ax2, cx2, rfl⟩ := row_len o8
  have hDu := hD.up HUx
  refine K ax2 cx2 w8 ⟨?_, World.ownsRow.kept (ow_up hR.ms HUx) g8 (own_off (ow_up hR.ms HUx) hnu (by decide)), fun k hk ho => ?_, hR.nm⟩ (hDu.beside hnu hN g8 hR.nn) (up_grownBy (hU.trans HUx) g8 (fun g hg => Nat.le_trans hW (World.ownsRow.lt hns g hg).1))
  · unfold OwS
    rw [List.length_append, cst_snoc, hq]
    exact o8
  · rcases f8 k hk with h1 | h1
    · exact hR.nn k h1 ho
    · have := hD.lt ho
      have := HUx.size
      omega
theorem wpList_appMark {W w : World} {B D T N q : Nat} {s : DD} {ops : Array Oper} {rest : List Oper} {o : Oper} {a : Act} {Q : Exit → Act → World → Prop} (hgd : o.guard = none) (x y : Operand)
    (ho : o.op = .call { callee := .builtin .append, args := #[x, y], argTypes := #[41, 41] }) (ak : Option Addr) (ck : Nat) (m : UInt8) (vx : Value) (xs : List (List UInt8)) (ks : List UInt8) (hx : a.eval x = .slice ak q ck) (hy : a.eval y = .slice (some ⟨w.heap.size, 0, none⟩) 1 1)
    (hR : RW w N D s vx xs (.slice ak q ck) ks) (hq : ks.length = q) (hD : DOk w B D T s) (hU : Up W w) (hN : 0 < N) (hW : W.heap.size ≤ N) (hNw : N ≤ w.heap.size) (hql : q ≤ 1048576)
    (K : ∀ ak2 ck2 w', RW w' N D s vx xs (.slice ak2 (q + 1) ck2) (ks ++ [m]) → DOk w' B D T s → Up W w' → wpList Tryz.prog ops Q rest (a.put o.dst (.slice ak2 (q + 1) ck2)) w') :
    wpList Tryz.prog ops Q (o :: rest) a (w.alloc (.cells #[.int .u8 (m.toNat : Int)] 5)) := by
  obtain ⟨i1, hi1, hz0, hz1, hz2⟩ := info_parts Tryz.infoU8
  have HUx := (Up.refl w).alloc (.cells #[.int .u8 (m.toNat : Int)] 5)
  have hms : w.ownsRow N 5 1 (.slice ak q ck) q (cb ks) := by have := hR.ms; unfold Ow at this; rw [hq] at this; exact this
  have hmu := ow_up hms HUx
  refine wpList_append_frs hgd x y 41 ho N 5 i1 (.int .u8 0) 1 Tryz.underlying41 hi1 hz0 hz1 hz2 rfl (.slice ak q ck) q _ hx hmu ⟨w.heap.size, 0, none⟩ 1 1 [.int .u8 (m.toNat : Int)] hy rfl ?_ ?_ (by simp only [maxLen]; omega) (by omega) (Nat.le_trans hNw HUx.size) ?_
  · intro j u hu
    rw [Addr.add_lit]
    exact At.cell (at_new w 5 [.int .u8 (m.toNat : Int)]) (i := 0 + j) (by rw [Nat.zero_add]; exact hu)
  · intro u hu
    obtain rfl := List.mem_singleton.1 hu
    rfl
  intro v8 w8 o8 g8 f8
  obtain ⟨ak2, ck2, rfl⟩ := row_len o8
  have hDu := hD.up HUx
  refine K ak2 ck2 w8 ⟨World.ownsRow.kept (ow_up hR.ns HUx) g8 (own_off (ow_up hR.ns HUx) hmu (by decide)), ?_, hR.nn, fun k hk ho => ?_⟩ (hDu.beside hmu hN g8 hR.nm) (up_grownBy (hU.trans HUx) g8 (fun g hg => Nat.le_trans hW (World.ownsRow.lt hms g hg).1))
  · unfold Ow
    rw [List.length_append, cb_snoc, hq]
    exact o8
  · rcases f8 k hk with h1 | h1
    · exact hR.nm k h1 ho
    · have := hD.lt ho
      have := HUx.size
      omega
theorem usd_one {nf : List (List UInt8 × FL)} (h : ∀ p ∈ nf, p.2.nb = [mkf p] ∧ mkf p ≠ 0) : usd nf = nf.length := by
  unfold usd
  induction nf with
  | nil => rfl
  | cons p r ih =>
    rw [List.map_cons, List.sum_cons, ih (fun q hq => h q (List.mem_cons_of_mem _ hq)), (h p List.mem_cons_self).1, List.length_cons, List.length_cons, List.length_nil]
    omega
theorem usd_drp_le (nf : List (List UInt8 × FL)) (l : List UInt8) (nd : (nf.map (·.1)).Nodup) : usd (drp nf l) ≤ usd nf := by
  have := usd_drp (l := l) nd
  omega
theorem drp_len (nf : List (List UInt8 × FL)) (l : List UInt8) : (drp nf l).length ≤ nf.length := List.length_filter_le _ _
theorem wrF_new {room used : Nat} (h : used + 1 ≤ room) : wrF room used 0 0 1 = 0 := by
  unfold wrF
  rw [if_neg (by omega), if_neg]
  have : gro 0 0 1 = 1 := by decide
  rw [this]
  omega
theorem wr_one (m : UInt8) : wr [] 0 [m] = [m] := rfl
/-- the file that was made last and is written -/
theorem rpl_last {w : World} {B D T : Nat} {s : DD} (h : DOk w B D T s) {pre : List (List UInt8 × FL)} {l : List UInt8} {f : FL} (hn : s.nf = pre ++ [(l, f)]) (f' : FL) : rpl s.nf f.b f' = pre ++ [(l, f')] := by
  have hnd := h.fnd
  unfold fls at hnd
  rw [hn] at hnd
  simp only [List.map_append, List.append_assoc] at hnd
  rw [List.nodup_append] at hnd
  rw [hn]
  refine rpl_split (fun p hp e => ?_) (fun p hp => by cases hp)
  exact hnd.2.2 p.2.b (List.mem_map.2 ⟨p.2, List.mem_map.2 ⟨p, hp, rfl⟩, rfl⟩) f.b (List.mem_append_left _ (by simp)) e
/-- the two steps that make a file of one byte -/
theorem NJ.made {W w w7 w8 w9 : World} {D T F : Nat} {s s7 s9 : DD} {vn vm : Value} {A : List UInt8} {m : UInt8} {f' : FL} (h : NJ W w D T s vn vm) (a7 : Aft w w7 W.heap.size D T s s7) (u8 : Up w7 w8) (a9 : Aft w8 w9 W.heap.size D (T + 2) s7 s9) (e7 : s7.nf = drp s.nf A ++ [(A, fnew F)]) (e9 : s9.nf = rpl s7.nf F f') (hf : f'.nb = [m]) (hm : m ≠ 0) (st : s9.dead = false ∧ s9.unt = 0 ∧ s9.room = 1073741824) :
    DOk w9 W.heap.size D (T + 4) s9 ∧ Up W w9 ∧ (∀ k, own D s9 k → W.heap.size ≤ k) ∧ (s9.dead = false ∧ s9.unt = 0 ∧ s9.room = 1073741824) ∧ s9.nf = drp s.nf A ++ [(A, f')] ∧ (∀ p ∈ s9.nf, p.2.nb = [mkf p] ∧ mkf p ≠ 0) ∧ s9.nf.length ≤ T + 4 := by
  have up7 := up_disk h.up h.lo a7.2.2
  have lo7 := lo_disk h.up h.lo a7.2.1
  have e10 : s9.nf = drp s.nf A ++ [(A, f')] := by rw [e9]; exact rpl_last a7.1 e7 f'
  refine ⟨a9.1, up_disk (up7.trans u8) lo7 a9.2.2, lo_disk (up7.trans u8) lo7 a9.2.1, st, e10, fun p hp => ?_, ?_⟩
  · rw [e10] at hp
    rcases List.mem_append.1 hp with hp | hp
    · exact h.one p (mem_drp.1 hp).1
    · obtain rfl := List.mem_singleton.1 hp
      have : mkf (A, f') = m := by unfold mkf; rw [hf]; rfl
      rw [this]
      exact ⟨hf, hm⟩
  · rw [e10, List.length_append]
    have := drp_len s.nf A
    have := h.len
    simp only [List.length_singleton]
    omega
end Go.Proofs.YtaibjeehjhlicaaGreatDoor
namespace Go.Proofs.YtaibjeehjhlicaaGreatDoor
open Go.RowKit Go.Shelf TextNum ModNum
theorem lsN_all (nf : List (List UInt8 × FL)) : lsN nf [] = srt (nf.map (·.1)) := by
  unfold lsN
  rw [List.filter_eq_self.2]
  intro a _
  rfl
theorem srt_len (xs : List (List UInt8)) : (srt xs).length = xs.length := (srt_perm xs).length_eq
/-- sorted, and each once: rising -/
theorem srt_lt {xs : List (List UInt8)} (nd : xs.Nodup) {i : Nat} (hi : i + 1 < (srt xs).length) : (srt xs)[i] < (srt xs)[i + 1] := by
  have h1 := List.pairwise_iff_getElem.1 (srt_pw xs) i (i + 1) (by omega) hi (by omega)
  have h2 : (srt xs).Nodup := (srt_perm xs).nodup_iff.2 nd
  have h3 := List.pairwise_iff_getElem.1 h2 i (i + 1) (by omega) hi (by omega)
  exact Std.lt_of_le_of_ne h1 h3
theorem srt_mem {xs : List (List UInt8)} {l : List UInt8} : l ∈ srt xs ↔ l ∈ xs := (srt_perm xs).mem_iff
theorem lsN_len (nf : List (List UInt8 × FL)) (p : List UInt8) : (lsN nf p).length = ((srt (nf.map (·.1))).filter fun l => pfx p l).length := by
  unfold lsN
  rw [srt_len]
  exact ((srt_perm _).filter _).length_eq.symm
theorem lsN_pfx {nf : List (List UInt8 × FL)} {p l : List UInt8} (h : l ∈ lsN nf p) : pfx p l = true := (List.mem_filter.1 (srt_mem.1 h)).2
theorem pfx_iff (p x : List UInt8) : pfx p x = true ↔ p.length ≤ x.length ∧ x.take p.length = p := by
  unfold pfx
  rw [List.isPrefixOf_iff_prefix, List.prefix_iff_eq_take]
  constructor
  · intro h
    exact ⟨by rw [h, List.length_take]; omega, h.symm⟩
  · exact fun h => h.2.symm
theorem ext_take (x : List UInt8) (p : ByteArray) : ((⟨x.toArray⟩ : ByteArray).extract 0 p.size).toList = x.take p.size := by
  rw [ByteArray.toList_eq]
  simp [ByteArray.data_extract]
/-- the three ways of a beginning -/
theorem pfx_ways (px : ByteArray) (x : List UInt8) : (pfx px.data.toList x = true ∧ px.size ≤ x.length ∧ (((⟨x.toArray⟩ : ByteArray).extract 0 px.size).toList == px.toList) = true) ∨ (pfx px.data.toList x = false ∧ ((px.size ≤ x.length ∧ (((⟨x.toArray⟩ : ByteArray).extract 0 px.size).toList == px.toList) = false) ∨ ¬ px.size ≤ x.length)) := by
  have hs : px.data.toList.length = px.size := (Go.Lib.size_eq px).symm
  rw [ext_take, ByteArray.toList_eq]
  by_cases h : pfx px.data.toList x = true
  · have h2 := (pfx_iff _ _).1 h
    rw [hs] at h2
    exact .inl ⟨h, h2.1, by rw [beq_iff_eq]; exact h2.2⟩
  · refine .inr ⟨by simpa using h, ?_⟩
    by_cases h3 : px.size ≤ x.length
    · refine .inl ⟨h3, ?_⟩
      rw [beq_eq_false_iff_ne]
      intro h4
      exact h ((pfx_iff _ _).2 (by rw [hs]; exact ⟨h3, h4⟩))
    · exact .inr h3
theorem few_take {Ls : List (List UInt8)} {i : Nat} (hi : i < Ls.length) (p : List UInt8) : ((Ls.take (i + 1)).filter fun l => pfx p l).length = ((Ls.take i).filter fun l => pfx p l).length + (if pfx p Ls[i] = true then 1 else 0) := by
  rw [List.take_succ_eq_append_getElem hi, List.filter_append, List.length_append, List.filter_cons]
  split <;> simp
end Go.Proofs.YtaibjeehjhlicaaGreatDoor
namespace Go.Proofs.YtaibjeehjhlicaaGreatDoor
open Go.RowKit Go.Shelf TextNum ModNum
def nbOf (nf : List (List UInt8 × FL)) (l : List UInt8) : List UInt8 := ((nf.find? fun p => p.1 == l).map (·.2.nb)).getD []
theorem nbOf_mem {nf : List (List UInt8 × FL)} (nd : (nf.map (·.1)).Nodup) {p : List UInt8 × FL} (hp : p ∈ nf) : nbOf nf p.1 = p.2.nb := by
  unfold nbOf
  obtain ⟨xs, ys, e⟩ := List.append_of_mem hp
  subst e
  rw [List.map_append, List.map_cons, List.nodup_append] at nd
  have h1 : xs.find? (fun q => q.1 == p.1) = none := List.find?_eq_none.2 (fun q hq e => nd.2.2 q.1 (List.mem_map_of_mem hq) p.1 List.mem_cons_self (beq_iff_eq.1 e))
  rw [List.find?_append, h1, List.find?_cons]
  simp
/-- what Files tells -/
def fsOf (nf : List (List UInt8 × FL)) : List (List UInt8 × List UInt8) := (srt (nf.map (·.1))).map fun l => (l, nbOf nf l)
def fcs (fs : List GF) : List Value := fs.flatMap fun g => [.string g.nm, g.v]
theorem fcs_snoc (fs : List GF) (g : GF) : fcs (fs ++ [g]) = fcs fs ++ [.string g.nm, g.v] := by simp [fcs]
theorem fcs_get : ∀ (fs : List GF) {i : Nat} (hi : i < fs.length), (fcs fs)[i * 2]? = some (.string fs[i].nm) ∧ (fcs fs)[i * 2 + 1]? = some fs[i].v
  | g :: r, 0, _ => ⟨rfl, rfl⟩
  | g :: r, i + 1, hi => by
    have ih := fcs_get r (i := i) (by simpa using hi)
    have e : fcs (g :: r) = .string g.nm :: g.v :: fcs r := rfl
    rw [e, show (i + 1) * 2 = i * 2 + 2 by omega]
    exact ih
/-- files in memory of one's own -/
structure FsO (w : World) (N : Nat) (a : Option Addr) (fs : List GF) (c : Nat) : Prop where
  row : w.ownsRow N 49 2 (.slice a fs.length c) fs.length (fcs fs)
  dat : ∀ g ∈ fs, Ow w N g.v g.ds
theorem FsO.up {w w' : World} {N : Nat} {a : Option Addr} {fs : List GF} {c : Nat} (h : FsO w N a fs c) (u : Up w w') : FsO w' N a fs c := ⟨ow_up h.row u, fun g hg => ow_up (h.dat g hg) u⟩
theorem FsO.low {w : World} {N N' : Nat} {a : Option Addr} {fs : List GF} {c : Nat} (h : FsO w N a fs c) (hn : N' ≤ N) : FsO w N' a fs c := ⟨ow_base h.row hn, fun g hg => ow_base (h.dat g hg) hn⟩
theorem FsO.fsl {w : World} {N : Nat} {a : Option Addr} {fs : List GF} {c : Nat} (h : FsO w N a fs c) : FsL w a fs c := by
  refine ⟨?_, fun i hi => ?_, fun g hg => Ow.sb (h.dat g hg)⟩
  · rcases h.row.2 with ⟨_, h0⟩ | ⟨g, cap, cur, e, _, _, hc, _⟩
    · omega
    · injection e with _ _ e3
      omega
  · rcases h.row.2 with ⟨_, h0⟩ | ⟨g, cap, cur, e, _, _, hc, _⟩
    · omega
    · injection e with e1 _ e3
      subst e1 e3
      have hc := World.ownsRow.cells h.row rfl
      have h1 := hc (i * 2) _ (fcs_get fs hi).1
      have h2 := hc (i * 2 + 1) _ (fcs_get fs hi).2
      rw [Addr.add_lit] at h1 h2
      exact ⟨g, 0, rfl, h1, h2⟩
set_option maxRecDepth 100000 in
theorem own_off' {w : World} {B B' n n' m m' : Nat} {e e' : TypeId} {v v' : Value} {xs xs' : List Value} (h : w.ownsRow B e m v n xs) (k : w.ownsRow B' e' m' v' n' xs') (ht : e ≠ e') : v.ownBlock = none ∨ v.ownBlock ≠ v'.ownBlock := by
  cases hv : v.ownBlock with
  | none => exact .inl rfl
  | some g => exact .inr (fun e0 => own_apart h k ht hv e0.symm)
theorem Tryz.infoFl : (Tryz.prog.info? 49).map (fun i => (i.zero, i.size, i.bytes)) = some (some (.agg #[.string ⟨#[]⟩, .slice none 0 0]), 2, 40) := by kernel_rfl
/-- one file is appended -/
theorem wpList_appFile {w : World} {N q : Nat} {ops : Array Oper} {rest : List Oper} {o : Oper} {a : Act} {Q : Exit → Act → World → Prop} (hgd : o.guard = none) (x y : Operand)
    (ho : o.op = .call { callee := .builtin .append, args := #[x, y], argTypes := #[32, 32] }) (ax : Option Addr) (cx : Nat) (fs : List GF) (g : GF) (hq : fs.length = q) (hx : a.eval x = .slice ax q cx) (hy : a.eval y = .slice (some ⟨w.heap.size, 0, none⟩) 1 1)
    (hR : FsO w N ax fs cx) (hg : Ow w N g.v g.ds) (hNw : N ≤ w.heap.size) (hql : q ≤ 1099511627776)
    (K : ∀ ax2 cx2 w', FsO w' N ax2 (fs ++ [g]) cx2 → (∀ W, Up W w → W.heap.size ≤ N → Up W w') → w.grownBy w' (Value.slice ax q cx).ownBlock → wpList Tryz.prog ops Q rest (a.put o.dst (.slice ax2 (q + 1) cx2)) w') :
    wpList Tryz.prog ops Q (o :: rest) a (w.alloc (.cells #[.string g.nm, g.v] 49)) := by
  subst hq
  obtain ⟨i1, hi1, hz0, hz1, hz2⟩ := info_parts Tryz.infoFl
  have HUx := (Up.refl w).alloc (.cells #[.string g.nm, g.v] 49)
  have hnu := ow_up hR.row HUx
  have hgv : g.v.oneCell' = true := by
    obtain ⟨_, _, e, _⟩ := Ow.sb hg
    rw [e]; rfl
  refine wpList_append_own _ hgd x y 32 ho N 49 i1 (.agg #[.string ⟨#[]⟩, .slice none 0 0]) 2 40 Tryz.underlying32 hi1 hz0 hz1 hz2 rfl (by omega) (.slice ax fs.length cx) fs.length _ hx hnu ⟨w.heap.size, 0, none⟩ 1 1 [.string g.nm, g.v] hy rfl ?_ ?_ (by simp only [maxLen]; omega) (by omega) (Nat.le_trans hNw HUx.size) ?_
  · intro j u hu
    rw [Addr.add_lit]
    exact At.cell (at_new w 49 [.string g.nm, g.v]) (i := 0 + j) (by rw [Nat.zero_add]; exact hu)
  · intro u hu
    simp only [List.mem_cons, List.not_mem_nil, or_false] at hu
    rcases hu with rfl | rfl
    · rfl
    · exact hgv
  intro v8 w8 o8 g8 _
  obtain ⟨ax2, cx2, rfl⟩ : ∃ ax2 cx2, v8 = .slice ax2 (fs.length + 1) cx2 := by
    rcases o8.2 with ⟨_, h0⟩ | ⟨g, cap, cur, e1, _⟩
    · omega
    · exact ⟨_, cap, e1⟩
  refine K ax2 cx2 w8 ⟨?_, fun g' hg' => ?_⟩ (fun W hU hW => up_grownBy (hU.trans HUx) g8 (fun k hk => Nat.le_trans hW (World.ownsRow.lt hR.row k hk).1)) (up_grown HUx g8)
  · rw [List.length_append, fcs_snoc]
    exact o8
  · have key : ∀ v ds, Ow w N v ds → Ow w8 N v ds := fun v ds h => World.ownsRow.kept (ow_up h HUx) g8 (own_off' (ow_up h HUx) hnu (by decide))
    rcases List.mem_append.1 hg' with hg' | hg'
    · exact key _ _ (hR.dat g' hg')
    · obtain rfl := List.mem_singleton.1 hg'
      exact key _ _ hg
set_option maxRecDepth 100000 in
set_option maxHeartbeats 4000000 in
theorem Files_gen {B D T : Nat} {s : DD} (w : World) (h : DOk w B D T s) (hd : s.dead = false) (hlen : s.nf.length ≤ 1099511627776) :
    Calls Tryz.prog 15 #[pv D] w fun e w' => ∃ a fs c, e = .returned (.slice a fs.length c) ∧ FsO w' w.heap.size a fs c ∧ Up w w' ∧ (fs.map fun g => (g.nm.data.toList, g.ds)) = fsOf s.nf := by
  have HI := Hid.of h
  have HLi := Hid.of (List_gen ⟨#[]⟩ w h hd)
  clear h
  go_enter Tryz.func15, Tryz.ntmps15
  go_wp2_with fail
  refine HLi.out.mono ?_
  rintro e w7 ⟨v7, rfl, q7, u7⟩
  replace q7 : SlS w7 v7 (srt (s.nf.map (·.1))) := by rw [← lsN_all]; exact q7
  obtain ⟨Ls, hLs⟩ : ∃ Ls, Ls = srt (s.nf.map (·.1)) := ⟨_, rfl⟩
  have HFs := Hid.of (show fsOf s.nf = Ls.map fun l => (l, nbOf s.nf l) by rw [hLs]; rfl)
  have HLm := Hid.of (show ∀ l, l ∈ Ls → l ∈ s.nf.map (·.1) by subst hLs; exact fun l hl => srt_mem.1 hl)
  have HLl := Hid.of (show Ls.length = s.nf.length by rw [hLs, srt_len, List.length_map])
  rw [← hLs] at q7
  have HU7 := Hid.of u7
  clear u7 HLi hLs
  obtain ⟨al, cl, rfl, hcl, hcells⟩ := q7
  have HCl := Hid.of hcells
  obtain ⟨n, hn⟩ : ∃ n, Ls.length = n := ⟨_, rfl⟩
  have HN := Hid.of hn
  rw [hn] at hcl ⊢
  have hclz : (n : Int) ≤ (cl : Int) := by omega
  have hnl : n ≤ 1099511627776 := by have := HLl.out; omega
  clear hcells hn
  dsimp only
  go_wp2
  go_loopw [3, 5, 9] (fun v3 _ v9 wq => ∃ i : Nat, v9 = .int .i64 (i : Int) ∧ i ≤ n ∧ ∃ a3 c3, v3 = .slice a3 i c3 ∧ Hid (∃ fs, fs.length = i ∧ FsO wq w7.heap.size a3 fs c3 ∧ Up w7 wq ∧ (fs.map fun g => (g.nm.data.toList, g.ds)) = (Ls.take i).map fun l => (l, nbOf s.nf l))) (fun _ _ v9 _ => n - (intOf v9).toNat)
  case atStart => exact ⟨0, rfl, by omega, none, 0, rfl, Hid.of ⟨[], rfl, ⟨World.ownsRow_nil _ _ _ _, (fun g hg => by cases hg)⟩, Up.refl _, rfl⟩⟩
  case round =>
    obtain ⟨i, rfl, hi, a3, c3, rfl, hQ⟩ := hrel
    obtain ⟨fs, hfl, hO, hU, hE⟩ := hQ.out
    have HO := Hid.of hO
    have HU := Hid.of hU
    have HE := Hid.of hE
    have HFl := Hid.of hfl
    clear hQ hO hU hE hfl
    by_cases hil : i < n
    · have hilz : (i : Int) < (n : Int) := by omega
      have hill : i < Ls.length := by rw [HN.out]; exact hil
      rcases HCl.out with e0 | ⟨bl, ol, rfl, _, hcell⟩
      · exfalso; rw [e0] at hill; simp at hill
      have k1 := HU.out.cell (hcell i hill)
      obtain ⟨x, hx⟩ : ∃ x, Ls[i] = x := ⟨_, rfl⟩
      rw [hx] at k1
      obtain ⟨p, hp, hpx⟩ := List.mem_map.1 (HLm.out Ls[i] (List.getElem_mem hill))
      rw [hx] at hpx
      have HEs := Hid.of (show ∀ v, ((fs ++ [(⟨⟨x.toArray⟩, v, p.2.nb⟩ : GF)]).map fun g => (g.nm.data.toList, g.ds)) = (Ls.take (i + 1)).map fun l => (l, nbOf s.nf l) from fun v => by
        rw [List.take_succ_eq_append_getElem hill, List.map_append, List.map_append, HE.out, hx, ← hpx]
        show _ ++ [(p.1, p.2.nb)] = _ ++ [(p.1, nbOf s.nf p.1)]
        rw [nbOf_mem HI.out.nd hp])
      have hIw := HI.out.up (HU7.out.trans HU.out)
      have c3' := hIw.disk.cell (i := 3) rfl
      obtain ⟨v, ps, hrun, hv⟩ := World.ownsMap.lookup hIw.mnow (Maps.string_keyed Tryz.underlying9) Tryz.underlying81 (Tryz.zeroValue88 wr) (zd := .lit (.bool false)) (zp := []) rfl (keyS ⟨x.toArray⟩ (by rw [Go.Lib.size_eq]; show x.length ≤ 255; rw [← hpx]; exact nm_len (HI.out.nms p hp)))
      have e5 := hIw.isn.val p hp
      rw [hpx] at e5
      have e6 : ∀ z, s.dm.atKey (.string (⟨x.toArray⟩ : ByteArray).data.toList) z = fd p.2.b := e5
      rw [e6] at hv
      obtain rfl := rp_inv hv
      have cf := (hIw.fok p.2 (mem_fls_nf hp)).file.cell (i := 0) rfl
      have HCn := Hid.of (Clone_walk p.2.vn p.2.nb wr (Ow.sb (hIw.fok p.2 (mem_fls_nf hp)).now) (by have := hIw.sz p.2 (mem_fls_nf hp); omega))
      clear hv hcell hx hIw e5 e6
      go_wp2_with fail
      refine HCn.out.mono ?_
      rintro e w8 ⟨v8, rfl, o8, u8⟩
      obtain ⟨a8, c8, rfl, _⟩ := id (Ow.sb o8)
      have HO8 := Hid.of (show Ow w8 w7.heap.size (.slice a8 p.2.nb.length c8) p.2.nb from ow_base o8 HU.out.size)
      have HF8 := Hid.of (HO.out.up u8)
      have HU8 := Hid.of (HU.out.trans u8)
      clear o8 u8 HCn hrun c3' cf k1
      dsimp only
      go_wp2_with (with_reducible show wpList _ _ _ ({ dst := _, op := Op.call { callee := Callee.builtin Builtin.append, args := _, argTypes := _ }, type := _, pos := _, after := _, guard := _ } :: _) _ _; refine Shut.out ?_)
      show wpList _ _ _ _ _ _
      refine wpList_appFile (w := w8) (N := w7.heap.size) rfl _ _ rfl a3 c3 fs ⟨⟨x.toArray⟩, .slice a8 p.2.nb.length c8, p.2.nb⟩ HFl.out rfl rfl HF8.out HO8.out HU8.out.size (by omega) ?_
      intro ax2 cx2 w9 f9 u9 _
      have HF9 := Hid.of f9
      have HU9 := Hid.of (u9 w7 HU8.out (Nat.le_refl _))
      clear f9 u9
      simp only [Act.put, List.setIfInBounds_toArray, List.set_cons_zero, List.set_cons_succ]
      go_wp2
      go_roundw
      all_goals first
        | exact ⟨i + 1, by go_num, by omega, ax2, cx2, rfl, Hid.of ⟨_, by rw [List.length_append, HFl.out]; rfl, HF9.out, HU9.out, HEs.out _⟩⟩
        | (simp [intOf]; omega)
    · have hilz : ¬ (i : Int) < (n : Int) := by omega
      rw [show Ls.take i = Ls from List.take_of_length_le (by have := HN.out; omega), ← HFs.out] at HE
      go_wp2
      go_ret
      exact ⟨a3, fs, c3, by rw [HFl.out]; rfl, HO.out.low HU7.out.size, HU7.out.trans HU.out, HE.out⟩
end Go.Proofs.YtaibjeehjhlicaaGreatDoor
