import Derived.Test.YtaibjeehjhlicaaDoorYbb
import Derived.Test.YtaibjeehjhlicaaDoorYbe
namespace Go.Proofs.YtaibjeehjhlicaaDoor
open Go.RowKit Go.Shelf TextNum ModNum
def nbOf (nf : List (List UInt8 × FL)) (l : List UInt8) : List UInt8 := ((nf.find? fun p => p.1 == l).map (·.2.nb)).getD []
theorem nbOf_mem {nf : List (List UInt8 × FL)} (nd : (nf.map (·.1)).Nodup) {p : List UInt8 × FL} (hp : p ∈ nf) : nbOf nf p.1 = p.2.nb := by
  unfold nbOf
  obtain ⟨xs, ys, e⟩ := List.append_of_mem hp
  subst e
  rw [List.map_append, List.map_cons, List.nodup_append] at nd
  have h1 : xs.find? (fun q => q.1 == p.1) = none := List.find?_eq_none.2 (fun q hq e => nd.2.2 q.1 (List.mem_map_of_mem hq) p.1 List.mem_cons_self (beq_iff_eq.1 e))
  rw [List.find?_append, h1, List.find?_cons]
  simp
/-- what Files tells -/
def fsOf (nf : List (List UInt8 × FL)) : List (List UInt8 × List UInt8) := (srt (nf.map (·.1))).map fun l => (l, nbOf nf l)
def fcs (fs : List GF) : List Value := fs.flatMap fun g => [.string g.nm, g.v]
theorem fcs_snoc (fs : List GF) (g : GF) : fcs (fs ++ [g]) = fcs fs ++ [.string g.nm, g.v] := by simp [fcs]
theorem fcs_get : ∀ (fs : List GF) {i : Nat} (hi : i < fs.length), (fcs fs)[i * 2]? = some (.string fs[i].nm) ∧ (fcs fs)[i * 2 + 1]? = some fs[i].v
  | g :: r, 0, _ => ⟨rfl, rfl⟩
  | g :: r, i + 1, hi => by
    have ih := fcs_get r (i := i) (by simpa using hi)
    have e : fcs (g :: r) = .string g.nm :: g.v :: fcs r := rfl
    rw [e, show (i + 1) * 2 = i * 2 + 2 by omega]
    exact ih
/-- files in memory of one's own -/
structure FsO (w : World) (N : Nat) (a : Option Addr) (fs : List GF) (c : Nat) : Prop where
  row : w.ownsRow N 29 2 (.slice a fs.length c) fs.length (fcs fs)
  dat : ∀ g ∈ fs, Ow w N g.v g.ds
theorem FsO.up {w w' : World} {N : Nat} {a : Option Addr} {fs : List GF} {c : Nat} (h : FsO w N a fs c) (u : Up w w') : FsO w' N a fs c := ⟨ow_up h.row u, fun g hg => ow_up (h.dat g hg) u⟩
theorem FsO.low {w : World} {N N' : Nat} {a : Option Addr} {fs : List GF} {c : Nat} (h : FsO w N a fs c) (hn : N' ≤ N) : FsO w N' a fs c := ⟨ow_base h.row hn, fun g hg => ow_base (h.dat g hg) hn⟩
theorem FsO.fsl {w : World} {N : Nat} {a : Option Addr} {fs : List GF} {c : Nat} (h : FsO w N a fs c) : FsL w a fs c := by
  refine ⟨?_, fun i hi => ?_, fun g hg => Ow.sb (h.dat g hg)⟩
  · rcases h.row.2 with ⟨_, h0⟩ | ⟨g, cap, cur, e, _, _, hc, _⟩
    · omega
    · injection e with _ _ e3
      omega
  · rcases h.row.2 with ⟨_, h0⟩ | ⟨g, cap, cur, e, _, _, hc, _⟩
    · omega
    · injection e with e1 _ e3
      subst e1 e3
      have hc := World.ownsRow.cells h.row rfl
      have h1 := hc (i * 2) _ (fcs_get fs hi).1
      have h2 := hc (i * 2 + 1) _ (fcs_get fs hi).2
      rw [Addr.add_lit] at h1 h2
      exact ⟨g, 0, rfl, h1, h2⟩
set_option maxRecDepth 100000 in
theorem own_off' {w : World} {B B' n n' m m' : Nat} {e e' : TypeId} {v v' : Value} {xs xs' : List Value} (h : w.ownsRow B e m v n xs) (k : w.ownsRow B' e' m' v' n' xs') (ht : e ≠ e') : v.ownBlock = none ∨ v.ownBlock ≠ v'.ownBlock := by
  cases hv : v.ownBlock with
  | none => exact .inl rfl
  | some g => exact .inr (fun e0 => own_apart h k ht hv e0.symm)
theorem Tryd.infoFl : (Tryd.prog.info? 29).map (fun i => (i.zero, i.size, i.bytes)) = some (some (.agg #[.string ⟨#[]⟩, .slice none 0 0]), 2, 40) := by kernel_rfl
/-- one file is appended -/
theorem wpList_appFile {w : World} {N q : Nat} {ops : Array Oper} {rest : List Oper} {o : Oper} {a : Act} {Q : Exit → Act → World → Prop} (hgd : o.guard = none) (x y : Operand)
    (ho : o.op = .call { callee := .builtin .append, args := #[x, y], argTypes := #[30, 30] }) (ax : Option Addr) (cx : Nat) (fs : List GF) (g : GF) (hq : fs.length = q) (hx : a.eval x = .slice ax q cx) (hy : a.eval y = .slice (some ⟨w.heap.size, 0, none⟩) 1 1)
    (hR : FsO w N ax fs cx) (hg : Ow w N g.v g.ds) (hNw : N ≤ w.heap.size) (hql : q ≤ 1099511627776)
    (K : ∀ ax2 cx2 w', FsO w' N ax2 (fs ++ [g]) cx2 → (∀ W, Up W w → W.heap.size ≤ N → Up W w') → w.grownBy w' (Value.slice ax q cx).ownBlock → wpList Tryd.prog ops Q rest (a.put o.dst (.slice ax2 (q + 1) cx2)) w') :
    wpList Tryd.prog ops Q (o :: rest) a (w.alloc (.cells #[.string g.nm, g.v] 29)) := by
  subst hq
  obtain ⟨i1, hi1, hz0, hz1, hz2⟩ := info_parts Tryd.infoFl
  have HUx := (Up.refl w).alloc (.cells #[.string g.nm, g.v] 29)
  have hnu := ow_up hR.row HUx
  have hgv : g.v.oneCell' = true := by
    obtain ⟨_, _, e, _⟩ := Ow.sb hg
    rw [e]; rfl
  refine wpList_append_own _ hgd x y 30 ho N 29 i1 (.agg #[.string ⟨#[]⟩, .slice none 0 0]) 2 40 Tryd.underlying30 hi1 hz0 hz1 hz2 rfl (by omega) (.slice ax fs.length cx) fs.length _ hx hnu ⟨w.heap.size, 0, none⟩ 1 1 [.string g.nm, g.v] hy rfl ?_ ?_ (by simp only [maxLen]; omega) (by omega) (Nat.le_trans hNw HUx.size) ?_
  · intro j u hu
    rw [Addr.add_lit]
    exact At.cell (at_new w 29 [.string g.nm, g.v]) (i := 0 + j) (by rw [Nat.zero_add]; exact hu)
  · intro u hu
    simp only [List.mem_cons, List.not_mem_nil, or_false] at hu
    rcases hu with rfl | rfl
    · rfl
    · exact hgv
  intro v8 w8 o8 g8 _
  obtain ⟨ax2, cx2, rfl⟩ : ∃ ax2 cx2, v8 = .slice ax2 (fs.length + 1) cx2 := by
    rcases o8.2 with ⟨_, h0⟩ | ⟨g, cap, cur, e1, _⟩
    · omega
    · exact ⟨_, cap, e1⟩
  refine K ax2 cx2 w8 ⟨?_, fun g' hg' => ?_⟩ (fun W hU hW => up_grownBy (hU.trans HUx) g8 (fun k hk => Nat.le_trans hW (World.ownsRow.lt hR.row k hk).1)) (up_grown HUx g8)
  · rw [List.length_append, fcs_snoc]
    exact o8
  · have key : ∀ v ds, Ow w N v ds → Ow w8 N v ds := fun v ds h => World.ownsRow.kept (ow_up h HUx) g8 (own_off' (ow_up h HUx) hnu (by decide))
    rcases List.mem_append.1 hg' with hg' | hg'
    · exact key _ _ (hR.dat g' hg')
    · obtain rfl := List.mem_singleton.1 hg'
      exact key _ _ hg
set_option maxRecDepth 100000 in
set_option maxHeartbeats 4000000 in
theorem Files_gen {B D T : Nat} {s : DD} (w : World) (h : DOk w B D T s) (hd : s.dead = false) (hlen : s.nf.length ≤ 1099511627776) :
    Calls Tryd.prog 5 #[pv D] w fun e w' => ∃ a fs c, e = .returned (.slice a fs.length c) ∧ FsO w' w.heap.size a fs c ∧ Up w w' ∧ (fs.map fun g => (g.nm.data.toList, g.ds)) = fsOf s.nf := by
  have HI := Hid.of h
  have HLi := Hid.of (List_gen ⟨#[]⟩ w h hd)
  clear h
  go_enter Tryd.func5, Tryd.ntmps5
  go_wp2_with fail
  refine HLi.out.mono ?_
  rintro e w7 ⟨v7, rfl, q7, u7⟩
  replace q7 : SlS w7 v7 (srt (s.nf.map (·.1))) := by rw [← lsN_all]; exact q7
  obtain ⟨Ls, hLs⟩ : ∃ Ls, Ls = srt (s.nf.map (·.1)) := ⟨_, rfl⟩
  have HFs := Hid.of (show fsOf s.nf = Ls.map fun l => (l, nbOf s.nf l) by rw [hLs]; rfl)
  have HLm := Hid.of (show ∀ l, l ∈ Ls → l ∈ s.nf.map (·.1) by subst hLs; exact fun l hl => srt_mem.1 hl)
  have HLl := Hid.of (show Ls.length = s.nf.length by rw [hLs, srt_len, List.length_map])
  rw [← hLs] at q7
  have HU7 := Hid.of u7
  clear u7 HLi hLs
  obtain ⟨al, cl, rfl, hcl, hcells⟩ := q7
  have HCl := Hid.of hcells
  obtain ⟨n, hn⟩ : ∃ n, Ls.length = n := ⟨_, rfl⟩
  have HN := Hid.of hn
  rw [hn] at hcl ⊢
  have hclz : (n : Int) ≤ (cl : Int) := by omega
  have hnl : n ≤ 1099511627776 := by have := HLl.out; omega
  clear hcells hn
  dsimp only
  go_wp2
  go_loopw [3, 5, 9] (fun v3 _ v9 wq => ∃ i : Nat, v9 = .int .i64 (i : Int) ∧ i ≤ n ∧ ∃ a3 c3, v3 = .slice a3 i c3 ∧ Hid (∃ fs, fs.length = i ∧ FsO wq w7.heap.size a3 fs c3 ∧ Up w7 wq ∧ (fs.map fun g => (g.nm.data.toList, g.ds)) = (Ls.take i).map fun l => (l, nbOf s.nf l))) (fun _ _ v9 _ => n - (intOf v9).toNat)
  case atStart => exact ⟨0, rfl, by omega, none, 0, rfl, Hid.of ⟨[], rfl, ⟨World.ownsRow_nil _ _ _ _, (fun g hg => by cases hg)⟩, Up.refl _, rfl⟩⟩
  case round =>
    obtain ⟨i, rfl, hi, a3, c3, rfl, hQ⟩ := hrel
    obtain ⟨fs, hfl, hO, hU, hE⟩ := hQ.out
    have HO := Hid.of hO
    have HU := Hid.of hU
    have HE := Hid.of hE
    have HFl := Hid.of hfl
    clear hQ hO hU hE hfl
    by_cases hil : i < n
    · have hilz : (i : Int) < (n : Int) := by omega
      have hill : i < Ls.length := by rw [HN.out]; exact hil
      rcases HCl.out with e0 | ⟨bl, ol, rfl, _, hcell⟩
      · exfalso; rw [e0] at hill; simp at hill
      have k1 := HU.out.cell (hcell i hill)
      obtain ⟨x, hx⟩ : ∃ x, Ls[i] = x := ⟨_, rfl⟩
      rw [hx] at k1
      obtain ⟨p, hp, hpx⟩ := List.mem_map.1 (HLm.out Ls[i] (List.getElem_mem hill))
      rw [hx] at hpx
      have HEs := Hid.of (show ∀ v, ((fs ++ [(⟨⟨x.toArray⟩, v, p.2.nb⟩ : GF)]).map fun g => (g.nm.data.toList, g.ds)) = (Ls.take (i + 1)).map fun l => (l, nbOf s.nf l) from fun v => by
        rw [List.take_succ_eq_append_getElem hill, List.map_append, List.map_append, HE.out, hx, ← hpx]
        show _ ++ [(p.1, p.2.nb)] = _ ++ [(p.1, nbOf s.nf p.1)]
        rw [nbOf_mem HI.out.nd hp])
      have hIw := HI.out.up (HU7.out.trans HU.out)
      have c3' := hIw.disk.cell (i := 3) rfl
      obtain ⟨v, ps, hrun, hv⟩ := World.ownsMap.lookup hIw.mnow (Maps.string_keyed Tryd.underlying9) Tryd.underlying54 (Tryd.zeroValue52 wr) (zd := .lit (.bool false)) (zp := []) rfl (keyS ⟨x.toArray⟩ (by rw [Go.Lib.size_eq]; show x.length ≤ 255; rw [← hpx]; exact nm_len (HI.out.nms p hp)))
      have e5 := hIw.isn.val p hp
      rw [hpx] at e5
      have e6 : ∀ z, s.dm.atKey (.string (⟨x.toArray⟩ : ByteArray).data.toList) z = fd p.2.b := e5
      rw [e6] at hv
      obtain rfl := rp_inv hv
      have cf := (hIw.fok p.2 (mem_fls_nf hp)).file.cell (i := 0) rfl
      have HCn := Hid.of (Clone_walk p.2.vn p.2.nb wr (Ow.sb (hIw.fok p.2 (mem_fls_nf hp)).now) (by have := hIw.sz p.2 (mem_fls_nf hp); omega))
      clear hv hcell hx hIw e5 e6
      go_wp2_with fail
      refine HCn.out.mono ?_
      rintro e w8 ⟨v8, rfl, o8, u8⟩
      obtain ⟨a8, c8, rfl, _⟩ := id (Ow.sb o8)
      have HO8 := Hid.of (show Ow w8 w7.heap.size (.slice a8 p.2.nb.length c8) p.2.nb from ow_base o8 HU.out.size)
      have HF8 := Hid.of (HO.out.up u8)
      have HU8 := Hid.of (HU.out.trans u8)
      clear o8 u8 HCn hrun c3' cf k1
      dsimp only
      go_wp2_with (with_reducible show wpList _ _ _ ({ dst := _, op := Op.call { callee := Callee.builtin Builtin.append, args := _, argTypes := _ }, type := _, pos := _, after := _, guard := _ } :: _) _ _; refine Shut.out ?_)
      show wpList _ _ _ _ _ _
      refine wpList_appFile (w := w8) (N := w7.heap.size) rfl _ _ rfl a3 c3 fs ⟨⟨x.toArray⟩, .slice a8 p.2.nb.length c8, p.2.nb⟩ HFl.out rfl rfl HF8.out HO8.out HU8.out.size (by omega) ?_
      intro ax2 cx2 w9 f9 u9 _
      have HF9 := Hid.of f9
      have HU9 := Hid.of (u9 w7 HU8.out (Nat.le_refl _))
      clear f9 u9
      simp only [Act.put, List.setIfInBounds_toArray, List.set_cons_zero, List.set_cons_succ]
      go_wp2
      go_roundw
      all_goals first
        | exact ⟨i + 1, by go_num, by omega, ax2, cx2, rfl, Hid.of ⟨_, by rw [List.length_append, HFl.out]; rfl, HF9.out, HU9.out, HEs.out _⟩⟩
        | (simp [intOf]; omega)
    · have hilz : ¬ (i : Int) < (n : Int) := by omega
      rw [show Ls.take i = Ls from List.take_of_length_le (by have := HN.out; omega), ← HFs.out] at HE
      go_wp2
      go_ret
      exact ⟨a3, fs, c3, by rw [HFl.out]; rfl, HO.out.low HU7.out.size, HU7.out.trans HU.out, HE.out⟩
end Go.Proofs.YtaibjeehjhlicaaDoor
