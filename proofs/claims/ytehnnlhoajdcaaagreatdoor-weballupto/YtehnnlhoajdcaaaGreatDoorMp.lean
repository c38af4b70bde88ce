import Derived.Test.YtehnnlhoajdcaaaGreatDoorMo
namespace Go.Proofs.YtehnnlhoajdcaaaGreatDoor
open Go.RowKit Go.Shelf TextNum
theorem result_cell_tmp2 {P : Program} {fn : Func} {q q2 q3 : Tmp} {T : TypeId} (h : fn.results = #[.cell q T, .tmp q2, .tmp q3]) (tmps : Array Value) (w : World) (b : Nat) (cs : List Value) (v v3 : Value) {d : TypeDesc}
  (hp : tmps.getD q undef = .pointer (some ⟨b, 0, none⟩)) (hv : tmps.getD q2 undef = v) (hv3 : tmps.getD q3 undef = v3) (hc : w.rangeAt b 0 cs) (hu : P.underlying T = some d) (hd : d.isRow = true) (hi : (P.info? T).map (·.size) = some cs.length) : (results fn tmps).run P w = .ok (.tuple #[.agg cs.toArray, v, v3]) w := by
 have hp' : tmps[q]?.getD undef = .pointer (some ⟨b, 0, none⟩) := by simpa using hp
 have hv' : tmps[q2]?.getD undef = v := by simpa using hv
 have hv3' : tmps[q3]?.getD undef = v3 := by simpa using hv3
 simp [results, h, hp', hv', hv3', asAddr, run_loadVar_mid w b 0 T cs _ hc hu hd hi]
theorem er_neq (ad : Nat → Addr) (k : Nat) : ∀ w, (binOp .neq 106 (erV ad k) .nilIface).run Tryz.prog w = .ok (.bool true) w := by
 intro w
 unfold erV
 split <;> kernel_rfl
theorem er_grd (ad : Nat → Addr) (k : Nat) : ∀ x y w, (eqGuard .neq 106 x y (erV ad k) .nilIface).run Tryz.prog w = .ok () w := by
 intro x y w
 unfold erV
 split <;> kernel_rfl
theorem exec_load6 {o : Oper} {ρ : Operand → Value} {x : Operand} {w : World} {b : Nat} {cs : List Value} (ho : o.op = .load 48 x) (hx : ρ x = .pointer (some ⟨b, 0, none⟩)) (h : w.rangeAt b 0 cs) (hl : (Tryz.prog.info? 48).map (·.size) = some cs.length := by kernel_rfl) : (execOp ρ o).run Tryz.prog w = .ok (.value (.agg cs.toArray)) w := by
 unfold execOp
 simp only [ho, hx]
 have := run_loadAt_mid (P := Tryz.prog) w b 0 48 cs _ h Tryz.underlying48 rfl hl
 simp [this]
theorem Sb.shape {w : World} {v : Value} {ds : List UInt8} (h : Sb w v ds) : ∃ a n c, v = .slice a n c := by
 obtain ⟨a, c, e, _⟩ := h
 exact ⟨a, _, c, e⟩
theorem lines_small (l : List UInt8) : ∀ x ∈ linesOf l, x.length ≤ l.length := by
 have key : ∀ (f : Nat) (l : List UInt8), ∀ x ∈ lns f l, x.length ≤ l.length := by
  intro f
  induction f with
  | zero => intro l x hx; cases hx
  | succ f ih =>
   intro l x hx
   unfold lns at hx
   split at hx
   · cases hx
   rename_i hne
   simp only [List.mem_cons] at hx
   rcases hx with rfl | hx
   · exact (List.takeWhile_sublist _).length_le
   have := ih _ x hx
   have := tail_lt hne
   omega
 exact key _ l
theorem rdf_small {l : List UInt8} {fs : List FD} (h : rdf l = .ok fs) : fs.length ≤ l.length ∧ ∀ f ∈ fs, f.n.size ≤ l.length ∧ f.v.size ≤ l.length := by
 unfold rdf at h
 split at h
 · cases h
 split at h
 · injection h with h
   subst h
   refine ⟨by rw [List.length_map]; exact lines_len l, fun f hf => ?_⟩
   obtain ⟨x, hx, rfl⟩ := List.mem_map.1 hf
   have h1 := lines_small l x hx
   have h2 := tcr_len x
   have h3 := c_len 58 (tcr x)
   have h4 := trm_len (c2 58 (tcr x))
   unfold fln
   rw [str_len, str_len]
   omega
 cases h
structure GW (w : World) (ad : Nat → Addr) : Prop where
 ge : GE w ad
 gn : GN w
 mt : w.rangeAt 14 0 mtC
 kd : w.rangeAt 13 0 kdC
 gp : GP w
 gm : GM w
theorem GW.up {w w' : World} {ad : Nat → Addr} (h : GW w ad) (k : Up w w') : GW w' ad := ⟨h.ge.up k, h.gn.up k, range_up h.mt k, range_up h.kd k, h.gp.up k, h.gm.up k⟩
structure Rq where
 m : List UInt8
 t : List UInt8
 mi : Int
 fs : List FD
def rqg (st fl : List UInt8) : Er (Rq × Int × Nat) := match rql st with
 | .error e => .error e
 | .ok (m, t, mi) => match rdf fl with
   | .error e => .error e
   | .ok fs => match ckh fs mi with
     | some e => .error e
     | none => match frm fs mi 0 with
       | .error e => .error e
       | .ok (way, len) => .ok (⟨m, t, mi, fs⟩, way, len)
def rqP (l : List UInt8) : Er ((Rq × List UInt8) × Nat) := msg 9 rqg (fun x _ b => (x, b)) l
def rqV (x : Rq) (a : Option Addr) (c : Nat) (v : Value) : Value := .agg #[vs x.m, vs x.t, .int .i64 x.mi, .slice a x.fs.length c, v, .bool (cls (x.mi == 0) x.fs)]
theorem rqV_eq {m t : List UInt8} {mi : Int} {fs : List FD} {a : Option Addr} {c nf : Nat} {v : Value} {cl : Bool} (h1 : fs.length = nf) (h2 : cls (mi == 0) fs = cl) : rqV ⟨m, t, mi, fs⟩ a c v = .agg #[vs m, vs t, .int .i64 mi, .slice a nf c, v, .bool cl] := by
 unfold rqV
 dsimp only
 rw [h1, h2]
def RqR (ad : Nat → Addr) (w w' : World) (e : Ending) : Er ((Rq × List UInt8) × Nat) → Prop
 | .error k => e = .returned (.tuple #[.agg z6.toArray, .int .i64 0, erV ad k])
 | .ok ((x, b), n) => ∃ a c v, e = .returned (.tuple #[rqV x a c v, .int .i64 (n : Int), .nilIface]) ∧ Hd (FdO w' w.heap.size a x.fs c ∧ Ow w' w.heap.size v b)
theorem RqR_ev {ad : Nat → Addr} {w w' : World} {k : Nat} (h : k < 12) : RqR ad w w' (.returned (.tuple #[.agg z6.toArray, .int .i64 0, ev (ad k)])) (.error k) := by
 show Ending.returned _ = Ending.returned _
 unfold erV
 rw [if_pos h]
theorem rql_er {l : List UInt8} {k : Nat} (h : rql l = .error k) : k < 12 := by
 unfold rql at h
 split at h
 · injection h with h; omega
 split at h
 · injection h with h; omega
 split at h
 · rename_i hm
   injection h with h
   have := mno_er hm
   omega
 cases h
theorem rdf_er {l : List UInt8} {k : Nat} (h : rdf l = .error k) : k < 12 := by
 unfold rdf at h
 split at h
 · injection h with h; omega
 split at h
 · cases h
 injection h with h; omega
theorem ckh_er {fs : List FD} {mi : Int} {k : Nat} (h : ckh fs mi = some k) : k = 6 := by
 unfold ckh at h
 split at h
 · exact (Option.some.inj h).symm
 split at h
 · exact (Option.some.inj h).symm
 cases h
theorem frm_er {fs : List FD} {mi u : Int} {k : Nat} (h : frm fs mi u = .error k) : k = 5 ∨ k = 7 := by
 unfold frm frl at h
 split at h
 · injection h with h; exact .inl h.symm
 split at h
 · injection h with h; exact .inl h.symm
 split at h
 · cases h
 split at h
 · cases h
 split at h
 · cases h
 split at h
 · injection h with h; exact .inr h.symm
 injection h with h; exact .inl h.symm
theorem frm_len {fs : List FD} {mi u way : Int} {n : Nat} (h : frm fs mi u = .ok (way, n)) : n ≤ 1048576 := by
 unfold frm frl at h
 split at h
 · cases h
 split at h
 · cases h
 split at h
 · injection h with h; injection h with e1 e2; omega
 split at h
 · injection h with h; injection h with e1 e2; omega
 split at h
 · injection h with h; injection h with e1 e2
   have := prs_ge (lst fs).data.toList
   omega
 split at h <;> cases h
set_option maxRecDepth 100000 in
set_option maxHeartbeats 4000000 in
theorem readRequest_walk (ad : Nat → Addr) {a : Option Addr} {n c : Nat} {ds : List UInt8} (hn40 : n ≤ 1099511627776) (w : World) (hS : Sb w (.slice a n c) ds) (hW : GW w ad) : Calls Tryz.prog 72 #[.slice a n c] w fun e w' => RqR ad w w' e (rqP ds) ∧ Up w w' := by
 have HW := Ho hW
 clear hW
 obtain ⟨hn, hnc, hcm⟩ := hS.len
 unfold maxLen at hcm
 have HN := Ho hn
 have HSb := Ho hS
 clear hn hS
 have HA0 := Ho (at_new w 48 z6)
 have HU0 := Ho ((Up.refl w).alloc (.cells z6.toArray 48))
 obtain ⟨rv, hrv⟩ := ny (rqP ds)
 have HR := Ho hrv
 rw [hrv]
 clear hrv
 unfold rqP msg at HR
 go_enter Tryz.func72, Tryz.ntmps72
 go_wp2_with (with_reducible refine sL 106 ?_)
 show wpList _ _ _ _ _ _
 obtain ⟨w1, hw1⟩ := ny (w.alloc (.cells z6.toArray 48))
 rw [hw1] at HA0 HU0
 change wpList _ _ _ _ _ (w.alloc (.cells z6.toArray 48))
 rw [hw1]
 clear hw1
 have hgl : w1.cell? ⟨1, 0, none⟩ = some (ev (ad 9)) := (HW.o.ge.up HU0.o).gl 9 (by decide)
 go_wp2_with fail
 refine (cutHead_walk ad 9 hn40 w1 (HSb.o.up HU0.o) (HW.o.ge.up HU0.o)).mono ?_
 rintro e w2 ⟨rfl, h9⟩
 have HU2 := Ho (HU0.o.trans h9)
 have HA2 := Ho (HA0.o.up h9)
 clear h9 hgl
 cases hc : cHd 9 ds with
 | error k =>
  rw [hc] at HR
  have HE := Ho (show rv = .error k from HR.o.symm)
  have hne := er_neq ad k
  have hge := er_grd ad k
  unfold hR z3
  dsimp only
  go_wp2_with (with_reducible show wpList _ _ _ (⟨_, .store 48 (.tmp 2) _, _, _, _, _⟩ :: _) _ _; refine Shut.out ?_)
  show wpList _ _ _ _ _ _
  refine wpList_store_at rfl 48 _ _ rfl (w.heap.size) (HA2.o.up ((Up.refl w2).alloc _)) z6 rfl rfl rfl (by kernel_rfl) (by kernel_rfl) ?_
  intro w8 hA8 hg8
  have HA8 := Ho hA8
  have HU8 := Ho ((HU2.o.alloc _).bz hg8)
  clear hA8 hg8
  simp only [Act.put]
  repeat go_step
  refine bodyPost_ret (result_cell_tmp2 Tryz.results72 _ _ (w.heap.size) z6 _ _ rfl rfl rfl HA8.o.range Tryz.underlying48 rfl (by kernel_rfl)) rfl ?_
  rw [HE.o]
  exact ⟨rfl, HU8.o⟩
 | ok q =>
  obtain ⟨st, fl, k⟩ := q
  rw [hc] at HR
  have hck := cHd_ok hc
  have hkn : k ≤ n := by rw [HN.o]; exact hck.2.1
  have hst : st.length ≤ 8000 := hck.2.2.1
  have hfll : fl.length ≤ 16384 := hck.2.2.2.1
  unfold hR
  dsimp only at HR ⊢
  clear hck hc
  go_wp2_with fail
  obtain ⟨w3, hw3⟩ := ny (w2.alloc (.cells #[vs st, vs fl, .int .i64 (k : Int)] 177))
  have HH3 := Ho (show At w3 w2.heap.size 177 [vs st, vs fl, .int .i64 (k : Int)] by rw [← hw3]; exact at_new w2 177 [vs st, vs fl, .int .i64 (k : Int)])
  have hu3 : Up w2 w3 := by rw [← hw3]; exact (Up.refl w2).alloc _
  have HU3 := Ho (HU2.o.trans hu3)
  have HA3 := Ho (HA2.o.up hu3)
  change Calls _ _ _ (w2.alloc (.cells #[vs st, vs fl, .int .i64 (k : Int)] 177)) _
  rw [hw3]
  clear hw3 hu3
  refine (readRequestLine_walk ad ⟨st.toArray⟩ (by rw [str_len]; omega) w3 (HW.o.up HU3.o).ge (HW.o.up HU3.o).gn (HW.o.up HU3.o).mt).mono ?_
  rintro e w4 ⟨rfl, h9⟩
  have HU4 := Ho (HU3.o.trans h9)
  have HA4 := Ho (HA3.o.up h9)
  have HH4 := Ho (HH3.o.up h9)
  clear h9 HH3
  unfold rqg at HR
  cases hl : rql st with
  | error e1 =>
   rw [hl] at HR
   have HE := Ho (show rv = .error e1 from HR.o.symm)
   have HK := Ho (rql_er hl)
   unfold rlR z6
   dsimp only
   go_wp2_with (with_reducible show wpList _ _ _ (⟨_, .store 48 (.tmp 2) _, _, _, _, _⟩ :: _) _ _; refine Shut.out ?_)
   show wpList _ _ _ _ _ _
   refine wpList_store_at rfl 48 _ _ rfl (w.heap.size) (HA4.o.up ((Up.refl w4).alloc _)) z6 rfl rfl rfl (by kernel_rfl) (by kernel_rfl) ?_
   intro w8 hA8 hg8
   have HA8 := Ho hA8
   have HU8 := Ho ((HU4.o.alloc _).bz hg8)
   clear hA8 hg8
   simp only [Act.put]
   repeat go_step
   refine bodyPost_ret (result_cell_tmp2 Tryz.results72 _ _ (w.heap.size) z6 _ _ rfl rfl rfl HA8.o.range Tryz.underlying48 rfl (by kernel_rfl)) rfl ?_
   rw [HE.o]
   exact ⟨RqR_ev HK.o, HU8.o⟩
  | ok q1 =>
   obtain ⟨m, t, mi⟩ := q1
   rw [hl] at HR
   unfold rlR
   dsimp only at HR ⊢
   clear hl
   have HUw4 := Ho HU4.o
   have HUw4s := Ho (show w.heap.size < w4.heap.size from lt_of_at HA4.o)
   have h1 : (w4.alloc (.cells #[vs m, vs t, .int .i64 mi, .slice none 0 0, .slice none 0 0, .bool false] 48)).cell? ⟨w2.heap.size, 1, none⟩ = some (vs fl) := (HH4.o.up ((Up.refl w4).alloc _)).cell (i := 1) rfl
   go_wp2_with fail
   obtain ⟨w5, hw5⟩ := ny (w4.alloc (.cells #[vs m, vs t, .int .i64 mi, .slice none 0 0, .slice none 0 0, .bool false] 48))
   have HR5 := Ho (show At w5 w4.heap.size 48 [vs m, vs t, .int .i64 mi, .slice none 0 0, .slice none 0 0, .bool false] by rw [← hw5]; exact at_new w4 48 [vs m, vs t, .int .i64 mi, .slice none 0 0, .slice none 0 0, .bool false])
   have hu5 : Up w4 w5 := by rw [← hw5]; exact (Up.refl w4).alloc _
   have HU5 := Ho (HU4.o.trans hu5)
   have HA5 := Ho (HA4.o.up hu5)
   have HH5 := Ho (HH4.o.up hu5)
   change Calls _ _ _ (w4.alloc (.cells #[vs m, vs t, .int .i64 mi, .slice none 0 0, .slice none 0 0, .bool false] 48)) _
   rw [hw5]
   clear hw5 hu5 h1
   refine (readFields_walk ad ⟨fl.toArray⟩ (by rw [str_len]; exact hfll) w5 (HW.o.up HU5.o).ge).mono ?_
   rintro e w6 ⟨hRd, h9⟩
   have HU6 := Ho (HU5.o.trans h9)
   have HA6 := Ho (HA5.o.up h9)
   have HH6 := Ho (HH5.o.up h9)
   have HR6 := Ho (HR5.o.up h9)
   have HU56 := Ho h9
   clear h9
   have q3 : w6.cell? ⟨w4.heap.size, 3, none⟩ = some (.slice none 0 0) := HR6.o.cell (i := 3) rfl
   have p3 := HR6.o.thaw 3
   have hrne : w4.heap.size ≠ w.heap.size := by have := HUw4s.o; omega
   cases hd : rdf fl with
   | error e2 =>
    rw [hd] at HR
    have HE := Ho (show rv = .error e2 from HR.o.symm)
    have HK := Ho (rdf_er hd)
    rw [show (⟨fl.toArray⟩ : ByteArray).data.toList = fl from rfl, hd] at hRd
    obtain rfl : e = _ := hRd
    dsimp only
    have HG3 := Ho (grown_at w6 w4.heap.size 3 (.slice none 0 0))
    go_wp2_with (with_reducible show wpList _ _ _ (⟨_, .store 48 (.tmp 2) _, _, _, _, _⟩ :: _) _ _; refine Shut.out ?_)
    show wpList _ _ _ _ _ _
    refine wpList_store_at rfl 48 _ _ rfl (w.heap.size) (HA6.o.by HG3.o (fun e => hrne (Option.some.inj e))) z6 rfl rfl rfl (by kernel_rfl) (by kernel_rfl) ?_
    intro w8 hA8 hg8
    have HA8 := Ho hA8
    have HU8 := Ho ((HU6.o.by HG3.o (fun g hg => by have := Option.some.inj hg; have := HUw4.o.size; omega)).bz hg8)
    clear hA8 hg8
    simp only [Act.put]
    repeat go_step
    refine bodyPost_ret (result_cell_tmp2 Tryz.results72 _ _ (w.heap.size) z6 _ _ rfl rfl rfl HA8.o.range Tryz.underlying48 rfl (by kernel_rfl)) rfl ?_
    rw [HE.o]
    exact ⟨RqR_ev HK.o, HU8.o⟩
   | ok fs =>
    rw [hd] at HR
    rw [show (⟨fl.toArray⟩ : ByteArray).data.toList = fl from rfl, hd] at hRd
    obtain ⟨af, cf, rfl, hFO⟩ := hRd
    have hsm := rdf_small hd
    have hfl2 : fs.length ≤ 1048576 := by omega
    have HSm := Ho (show ∀ f ∈ fs, f.v.size ≤ 1048576 from fun f hf => by have := (hsm.2 f hf).2; omega)
    clear hsm hd
    dsimp only at HR ⊢
    have HFO6 := Ho (ow_base hFO.o HU5.o.size)
    clear hFO
    obtain ⟨nf, hnf⟩ := ny fs.length
    have HNf := Ho hnf
    rw [hnf] at HFO6 ⊢
    clear hnf
    have HG3 := Ho (grown_at w6 w4.heap.size 3 (.slice af nf cf))
    have HR7 := Ho (HR6.o.set 3 (.slice af nf cf))
    dsimp only [List.set_cons_zero, List.set_cons_succ] at HR7
    have HA7 := Ho (HA6.o.by HG3.o (fun e => hrne (Option.some.inj e)))
    have hhne := HH6.o.ne HR6.o (by decide)
    have HH7 := Ho (HH6.o.by HG3.o (fun e => hhne (Option.some.inj e).symm))
    have HU7 := Ho (HU6.o.by HG3.o (fun g hg => by have := Option.some.inj hg; have := HUw4.o.size; omega))
    have HFO7 := Ho (HFO6.o.kept HG3.o (.inr (own_ne HFO6.o HR6.o (by decide))))
    have r2 : (w6.setCell ⟨w4.heap.size, 3, none⟩ (.slice af nf cf)).cell? ⟨w4.heap.size, 2, none⟩ = some (.int .i64 mi) := HR7.o.cell (i := 2) rfl
    have r3 : (w6.setCell ⟨w4.heap.size, 3, none⟩ (.slice af nf cf)).cell? ⟨w4.heap.size, 3, none⟩ = some (.slice af nf cf) := HR7.o.cell (i := 3) rfl
    clear HG3 hhne HR6 HA6 HH6 HFO6
    go_wp2_with fail
    change Calls _ _ _ (w6.setCell ⟨w4.heap.size, 3, none⟩ (.slice af nf cf)) _
    obtain ⟨w7, hw7⟩ := ny (w6.setCell ⟨w4.heap.size, 3, none⟩ (.slice af nf cf))
    rw [hw7] at HR7 HA7 HH7 HU7 HFO7 ⊢
    clear hw7 r2 r3 q3 p3
    have HFd := Ho (show FdL w7 af fs cf by have h := HFO7.o; rw [← HNf.o] at h; exact FdO.fdl h)
    have HCh := Ho (checkHost_walk ad af fs cf mi w7 HFd.o hfl2 HSm.o (HW.o.up HU7.o).ge (HW.o.up HU7.o).kd)
    rw [HNf.o] at HCh
    refine HCh.o.mono ?_
    rintro e w8' ⟨rfl, h9⟩
    have HU8' := Ho (HU7.o.trans h9)
    have HA8' := Ho (HA7.o.up h9)
    have HH8' := Ho (HH7.o.up h9)
    have HR8' := Ho (HR7.o.up h9)
    have HFO8' := Ho (ow_up HFO7.o h9)
    have HFd8' := Ho (HFd.o.up h9)
    clear h9 HCh
    cases hk : ckh fs mi with
    | some e3 =>
     rw [hk] at HR
     have HE := Ho (show rv = .error e3 from HR.o.symm)
     have HK := Ho (show e3 < 12 by have := ckh_er hk; omega)
     unfold eoV
     dsimp only
     go_wp2_with (with_reducible show wpList _ _ _ (⟨_, .store 48 (.tmp 2) _, _, _, _, _⟩ :: _) _ _; refine Shut.out ?_)
     show wpList _ _ _ _ _ _
     refine wpList_store_at rfl 48 _ _ rfl (w.heap.size) (HA8'.o) z6 rfl rfl rfl (by kernel_rfl) (by kernel_rfl) ?_
     intro w8 hA8 hg8
     have HA8 := Ho hA8
     have HU8 := Ho ((HU8'.o).bz hg8)
     clear hA8 hg8
     simp only [Act.put]
     repeat go_step
     refine bodyPost_ret (result_cell_tmp2 Tryz.results72 _ _ (w.heap.size) z6 _ _ rfl rfl rfl HA8.o.range Tryz.underlying48 rfl (by kernel_rfl)) rfl ?_
     rw [HE.o]
     exact ⟨RqR_ev HK.o, HU8.o⟩
    | none =>
     rw [hk] at HR
     unfold eoV
     dsimp only at HR ⊢
     clear hk
     have r2 : w8'.cell? ⟨w4.heap.size, 2, none⟩ = some (.int .i64 mi) := HR8'.o.cell (i := 2) rfl
     have r3 : w8'.cell? ⟨w4.heap.size, 3, none⟩ = some (.slice af nf cf) := HR8'.o.cell (i := 3) rfl
     have HFm := Ho (framingOf_walk ad af fs cf mi 0 w8' HFd8'.o hfl2 HSm.o (HW.o.up HU8'.o).ge (HW.o.up HU8'.o).kd (HW.o.up HU8'.o).gp)
     rw [HNf.o] at HFm
     go_wp2_with fail
     refine HFm.o.mono ?_
     rintro e w9 ⟨rfl, h9⟩
     have HU9 := Ho (HU8'.o.trans h9)
     have HA9 := Ho (HA8'.o.up h9)
     have HH9 := Ho (HH8'.o.up h9)
     have HR9 := Ho (HR8'.o.up h9)
     have HFO9 := Ho (ow_up HFO8'.o h9)
     have HFd9 := Ho (HFd8'.o.up h9)
     clear h9 HFm r2 r3
     cases hf0 : frm fs mi 0 with
     | error e4 =>
      rw [hf0] at HR
      have HE := Ho (show rv = .error e4 from HR.o.symm)
      have HK := Ho (show e4 < 12 by have := frm_er hf0; omega)
      unfold frR z2
      dsimp only
      go_wp2_with (with_reducible show wpList _ _ _ (⟨_, .store 48 (.tmp 2) _, _, _, _, _⟩ :: _) _ _; refine Shut.out ?_)
      show wpList _ _ _ _ _ _
      refine wpList_store_at rfl 48 _ _ rfl (w.heap.size) (HA9.o.up ((Up.refl w9).alloc _)) z6 rfl rfl rfl (by kernel_rfl) (by kernel_rfl) ?_
      intro w8 hA8 hg8
      have HA8 := Ho hA8
      have HU8 := Ho ((HU9.o.alloc _).bz hg8)
      clear hA8 hg8
      simp only [Act.put]
      repeat go_step
      refine bodyPost_ret (result_cell_tmp2 Tryz.results72 _ _ (w.heap.size) z6 _ _ rfl rfl rfl HA8.o.range Tryz.underlying48 rfl (by kernel_rfl)) rfl ?_
      rw [HE.o]
      exact ⟨RqR_ev HK.o, HU8.o⟩
     | ok q4 =>
      obtain ⟨way, len⟩ := q4
      rw [hf0] at HR
      have hlen := frm_len hf0
      unfold frR
      dsimp only at HR ⊢
      clear hf0
      go_wp2
      obtain ⟨wA, hwA⟩ := ny (w9.alloc (.cells #[.int .i64 way, .int .i64 (len : Int)] 185))
      have HFA := Ho (show At wA w9.heap.size 185 [.int .i64 way, .int .i64 (len : Int)] by rw [← hwA]; exact at_new w9 185 [.int .i64 way, .int .i64 (len : Int)])
      have huA : Up w9 wA := by rw [← hwA]; exact (Up.refl w9).alloc _
      have HUA := Ho (HU9.o.trans huA)
      have HAA := Ho (HA9.o.up huA)
      have HHA := Ho (HH9.o.up huA)
      have HRA := Ho (HR9.o.up huA)
      have HFO := Ho (ow_up HFO9.o huA)
      have HFA2 := Ho (HFd9.o.up huA)
      change Code.wp _ _ _ _ (w9.alloc (.cells #[.int .i64 way, .int .i64 (len : Int)] 185))
      rw [hwA]
      clear hwA huA HU9 HA9 HH9 HR9 HFO9 HFd9
      have hSk := HSb.o.sub k n hkn (by rw [← HN.o]; exact Nat.le_refl _)
      rw [show (ds.take n).drop k = ds.drop k by rw [HN.o, List.take_length]] at hSk
      have HCt := Ho (fun (w2 : World) (hu : Up wA w2) => cut_walk ad way len (by omega) (by omega) w2 (hSk.up (HUA.o.trans hu)) (HW.o.up (HUA.o.trans hu)).ge)
      clear hSk
      have HRes := Ho (show ∀ r : Er ((Rq × List UInt8) × Nat), (match fcu way len (ds.drop k) with | .error e => .error e | .ok (b, n) => .ok ((⟨m, t, mi, fs⟩, b), k + n)) = r → rv = r from fun r hr => by
       rw [← HR.o, ← hr]
       cases fcu way len (ds.drop k) <;> rfl)
      clear HR
      refine wp_region_held_drew (S := fun w2 => Up wA w2) (by kernel_rfl) (Up.refl wA).drew (fun hS => ?_)
      refine tK 0 (some 64) (.load 185 (.tmp 8)) 185 (.agg #[.int .i64 way, .int .i64 (len : Int)]) hS ?_ ?_
      · intro _ _ w5 hSw
        have hf0 : w5.cell? ⟨w9.heap.size, 0, none⟩ = some (.int .i64 way) := hSw.cell (HFA.o.cell (i := 0) rfl)
        have hf1 : w5.cell? ⟨w9.heap.size, 1, none⟩ = some (.int .i64 (len : Int)) := hSw.cell (HFA.o.cell (i := 1) rfl)
        clear hSw hS
        go_simp
      simp only [Act.put, pB, pC, pD]
      refine tN 1 (some 65) (.move (.tmp 0)) 22 (.slice a n c) hS ?_
      simp only [pA, pB, pC, pD]
      refine tN 2 (some 66) (.fieldAddr 177 (.tmp 5) 2) 0 (.pointer (some ⟨w2.heap.size, 2, none⟩)) hS ?_
      simp only [pA, pB, pC, pD]
      refine tK 3 (some 67) (.load 3 (.tmp 66)) 3 (.int .i64 (k : Int)) hS ?_ ?_
      · intro _ _ w5 hSw
        have hh2 : w5.cell? ⟨w2.heap.size, 2, none⟩ = some (.int .i64 (k : Int)) := hSw.cell (HHA.o.cell (i := 2) rfl)
        clear hSw hS
        go_simp
      simp only [pA, pB, pC, pD]
      refine tK 4 (some 68) (.slice 22 (.tmp 65) (some (.tmp 67)) none none) 22 (.slice (sv a c k) (n - k) (c - k)) hS ?_ ?_
      · intro _ _ w5 hSw
        clear hSw hS
        exact exec_sublo (by omega) rfl rfl rfl
      simp only [pA, pB, pC, pD]
      refine rD 5 (some 69) (.call ⟨.value (.func 119), #[.tmp 64, .tmp 68], #[185, 22]⟩) 147 fun _ _ K hK => ?_
      rw [if_pos (by kernel_rfl)]
      go_simp
      refine (HCt.o _ hS).mono ?_
      rintro e wB ⟨hUn, u5⟩
      have HSB := Ho (hS.trans u5)
      have HSs := Ho hS
      clear u5 hS
      cases hf : fcu way len (ds.drop k) with
      | error e9 =>
       rw [hf] at hUn
       obtain rfl : e = _ := hUn
       dsimp only
       refine hK.out _ _ HSB.o (fun hS => ?_)
       clear hK K
       refine tN 6 (some 63) (.move (.tmp 69)) 147 (.tuple #[.slice none 0 0, .int .i64 0, erV ad e9]) hS ?_
       simp only [Act.put, pB, pC, pD]
       refine tN 7 (some 70) (.extract (.tmp 63) 0) 22 (.slice none 0 0) hS ?_
       simp only [pA, pB, pC, pD]
       refine tN 8 (some 71) (.extract (.tmp 63) 1) 3 (.int .i64 0) hS ?_
       simp only [pA, pB, pC, pD]
       refine tN 9 (some 72) (.extract (.tmp 63) 2) 106 (erV ad e9) hS ?_
       simp only [pA, pB, pC, pD]
       refine tN 10 (some 9) (.assign (.tmp 70)) 22 (.slice none 0 0) hS ?_
       simp only [pA, pB, pC, pD]
       refine tN 11 (some 10) (.assign (.tmp 71)) 3 (.int .i64 0) hS ?_
       simp only [pA, pB, pC, pD]
       refine tN 12 (some 6) (.assign (.tmp 72)) 106 (erV ad e9) hS ?_
       simp only [pA, pB, pC, pD]
       clear hS
       refine wpAnyH_done (by kernel_rfl) ?_ _
       have hne := er_neq ad e9
       have hge := er_grd ad e9
       have HE := Ho (HRes.o (.error e9) (by rw [hf]))
       go_wp2_with (with_reducible show wpList _ _ _ (⟨_, .store 48 (.tmp 2) _, _, _, _, _⟩ :: _) _ _; refine Shut.out ?_)
       show wpList _ _ _ _ _ _
       refine wpList_store_at rfl 48 _ _ rfl (w.heap.size) (HAA.o.up HSB.o) z6 rfl rfl rfl (by kernel_rfl) (by kernel_rfl) ?_
       intro w8 hA8 hg8
       have HA8 := Ho hA8
       have HU8 := Ho ((HUA.o.trans HSB.o).bz hg8)
       clear hA8 hg8
       simp only [Act.put]
       repeat go_step
       refine bodyPost_ret (result_cell_tmp2 Tryz.results72 _ _ (w.heap.size) z6 _ _ rfl rfl rfl HA8.o.range Tryz.underlying48 rfl (by kernel_rfl)) rfl ?_
       rw [HE.o]
       exact ⟨rfl, HU8.o⟩
      | ok q9 =>
       obtain ⟨bo, nb⟩ := q9
       rw [hf] at hUn
       obtain ⟨vB, rfl, hoB⟩ := hUn
       have HOB := Ho (ow_base hoB.o (Nat.le_trans HUA.o.size HSs.o.size))
       clear hoB
       dsimp only
       refine hK.out _ _ HSB.o (fun hS => ?_)
       clear hK K
       refine tN 6 (some 63) (.move (.tmp 69)) 147 (.tuple #[vB, .int .i64 (nb : Int), .nilIface]) hS ?_
       simp only [Act.put, pB, pC, pD]
       refine tN 7 (some 70) (.extract (.tmp 63) 0) 22 vB hS ?_
       simp only [pA, pB, pC, pD]
       refine tN 8 (some 71) (.extract (.tmp 63) 1) 3 (.int .i64 (nb : Int)) hS ?_
       simp only [pA, pB, pC, pD]
       refine tN 9 (some 72) (.extract (.tmp 63) 2) 106 .nilIface hS ?_
       simp only [pA, pB, pC, pD]
       refine tN 10 (some 9) (.assign (.tmp 70)) 22 vB hS ?_
       simp only [pA, pB, pC, pD]
       refine tN 11 (some 10) (.assign (.tmp 71)) 3 (.int .i64 (nb : Int)) hS ?_
       simp only [pA, pB, pC, pD]
       refine tN 12 (some 6) (.assign (.tmp 72)) 106 .nilIface hS ?_
       simp only [pA, pB, pC, pD]
       clear hS
       refine wpAnyH_done (by kernel_rfl) ?_ _
       have hfl := fcu_len hf
       rw [List.length_drop, ← HN.o] at hfl
       have hnb : nb ≤ n - k := hfl.1
       clear hfl
       have HE := Ho (HRes.o (.ok ((⟨m, t, mi, fs⟩, bo), k + nb)) (by rw [hf]))
       clear hf
       have HRB := Ho (HRA.o.up HSB.o)
       have r2 : wB.cell? ⟨w4.heap.size, 2, none⟩ = some (.int .i64 mi) := HRB.o.cell (i := 2) rfl
       have r3 : wB.cell? ⟨w4.heap.size, 3, none⟩ = some (.slice af nf cf) := HRB.o.cell (i := 3) rfl
       have HUB := Ho (HUA.o.trans HSB.o)
       have HFB := Ho (show FdL wB af fs cf by have h := HFA2.o.up HSB.o; exact h)
       have HCs := Ho (closes_walk af fs cf mi wB HFB.o hfl2 HSm.o (HW.o.up HUB.o).kd (HW.o.up HUB.o).gm)
       rw [HNf.o] at HCs
       obtain ⟨clv, hclv⟩ := ny (cls (mi == 0) fs)
       have HCv := Ho hclv
       rw [hclv] at HCs
       clear hclv
       go_wp2_with fail
       refine HCs.o.mono ?_
       rintro e wC ⟨rfl, uC⟩
       have HUC := Ho (HUB.o.trans uC)
       have HRC := Ho (HRB.o.up uC)
       have HAC := Ho ((HAA.o.up HSB.o).up uC)
       have HHC := Ho ((HHA.o.up HSB.o).up uC)
       have HFC := Ho (ow_up (ow_up HFO.o HSB.o) uC)
       have HOC := Ho (ow_up HOB.o uC)
       clear uC r2 r3
       dsimp only
       have k4 : wC.cell? ⟨w4.heap.size, 4, none⟩ = some (.slice none 0 0) := HRC.o.cell (i := 4) rfl
       have f4 := HRC.o.thaw 4
       have k5 : wC.cell? ⟨w4.heap.size, 5, none⟩ = some (.bool false) := HRC.o.cell (i := 5) rfl
       have f5 := HRC.o.thaw 5
       obtain ⟨aB, nB, cB, rfl⟩ := Sb.shape (Ow.sb HOB.o)
       go_wp2
       have HG4 := Ho (grown_at wC w4.heap.size 4 (.slice aB nB cB))
       have HG5 := Ho (grown_at (wC.setCell ⟨w4.heap.size, 4, none⟩ (.slice aB nB cB)) w4.heap.size 5 (.bool clv))
       have HRE := Ho ((HRC.o.set 4 (.slice aB nB cB)).set 5 (.bool clv))
       have HUE := Ho ((HUC.o.by HG4.o (fun g hg => by have := Option.some.inj hg; have := HUw4.o.size; omega)).by HG5.o (fun g hg => by have := Option.some.inj hg; have := HUw4.o.size; omega))
       have hrne : w4.heap.size ≠ w.heap.size := by have := HUw4s.o; omega
       have HAE := Ho ((HAC.o.by HG4.o (fun e => hrne (Option.some.inj e))).by HG5.o (fun e => hrne (Option.some.inj e)))
       have hhne := HHC.o.ne HRC.o (by decide)
       have HHE := Ho ((HHC.o.by HG4.o (fun e => hhne (Option.some.inj e).symm)).by HG5.o (fun e => hhne (Option.some.inj e).symm))
       have HFE := Ho ((HFC.o.kept HG4.o (.inr (own_ne HFC.o HRC.o (by decide)))).kept HG5.o (.inr (own_ne HFC.o HRC.o (by decide))))
       have HOE := Ho ((HOC.o.kept HG4.o (.inr (own_ne HOC.o HRC.o (by decide)))).kept HG5.o (.inr (own_ne HOC.o HRC.o (by decide))))
       clear HG4 HG5 k4 f4 k5 f5 hrne hhne
       generalize (wC.setCell ⟨w4.heap.size, 4, none⟩ (.slice aB nB cB)).setCell ⟨w4.heap.size, 5, none⟩ (.bool clv) = wE at *
       dsimp only [List.set_cons_zero, List.set_cons_succ] at HRE
       have hone : ([vs m, vs t, .int .i64 mi, .slice af nf cf, Value.slice aB nB cB, .bool clv] : List Value).toArray.all (·.oneCell') = true := by kernel_rfl
       refine wp_region_held_drew (S := fun wS => (∃ cs, cs.length = 6 ∧ At wS w.heap.size 48 cs) ∧ At wS w4.heap.size 48 [vs m, vs t, .int .i64 mi, .slice af nf cf, (.slice aB nB cB), .bool clv] ∧ At wS w2.heap.size 177 [vs st, vs fl, .int .i64 (k : Int)] ∧ wS.ownsRow w.heap.size 89 2 (.slice af nf cf) nf (fdc fs) ∧ Ow wS w.heap.size (.slice aB nB cB) bo ∧ Up w wS) (by kernel_rfl) ⟨⟨z6, rfl, HAE.o.up (Up.refl _).drew⟩, HRE.o.up (Up.refl _).drew, HHE.o.up (Up.refl _).drew, ow_up HFE.o (Up.refl _).drew, ow_up HOE.o (Up.refl _).drew, HUE.o.drew⟩ (fun hS => ?_)
       refine tK 0 (some 85) (.load 48 (.tmp 7)) 48 (.agg [vs m, vs t, .int .i64 mi, .slice af nf cf, (.slice aB nB cB), .bool clv].toArray) hS ?_ ?_
       · intro _ _ w5 hSw
         have hld := hSw.2.1.range
         clear hS
         clear hSw
         exact exec_load6 rfl rfl hld
       simp only [pA, pB, pC, pD]
       refine tN 1 (some 86) (.fieldAddr 177 (.tmp 5) 2) 0 (.pointer (some ⟨w2.heap.size, 2, none⟩)) hS ?_
       simp only [pA, pB, pC, pD]
       refine tK 2 (some 87) (.load 3 (.tmp 86)) 3 (.int .i64 (k : Int)) hS ?_ ?_
       · intro _ _ w5 hSw
         have hh2 : w5.cell? ⟨w2.heap.size, 2, none⟩ = some (.int .i64 (k : Int)) := hSw.2.2.1.cell (i := 2) rfl
         clear hSw hS
         go_simp
       simp only [pA, pB, pC, pD]
       refine tN 3 (some 88) (.move (.tmp 10)) 3 (.int .i64 (nb : Int)) hS ?_
       simp only [pA, pB, pC, pD]
       refine tK 4 (some 89) (.binOp .add 3 (.tmp 87) (.tmp 88) 3) 3 (.int .i64 ((k + nb : Nat) : Int)) hS ?_ ?_
       · intro _ _ w5 hSw
         clear hSw hS
         go_simp
         exact wrapk _ (by omega) (by omega)
       simp only [pA, pB, pC, pD]
       refine rD 5 none (.store 48 (.tmp 2) (.tmp 85)) 0 fun _ _ K hK => oper_of_list ?_
       obtain ⟨⟨cs, hcl, hcs2⟩, hS1, hS2, hS3, hS4, hS5⟩ := hS
       refine wpList_store_at rfl 48 _ _ rfl (w.heap.size) hcs2 [vs m, vs t, .int .i64 mi, .slice af nf cf, (.slice aB nB cB), .bool clv] rfl rfl hcl.symm (by kernel_rfl) hone ?_
       intro w8 hA8 hg8
       have HA8 := Ho hA8
       have HU8 := Ho (hS5.bz hg8)
       have HF8 := Ho (hS3.kept hg8 (.inr (own_ne hS3 hcs2 (by decide))))
       have HO8 := Ho (hS4.kept hg8 (.inr (own_ne hS4 hcs2 (by decide))))
       have HR8 := Ho (hS1.by hg8 (by have := hS1.ne hcs2; intro e; have := Option.some.inj e; omega))
       have HH8 := Ho (hS2.by hg8 (by have := hS2.ne hcs2 (by decide); intro e; have := Option.some.inj e; omega))
       clear hA8 hg8 hcs2 hS2 hS1 hS3 hS4 hS5
       refine hK.out _ _ ⟨⟨_, rfl, HA8.o⟩, HR8.o, HH8.o, HF8.o, HO8.o, HU8.o⟩ (fun hS => ?_)
       clear hK K
       refine tN 6 (some 3) (.assign (.tmp 89)) 3 (.int .i64 ((k + nb : Nat) : Int)) hS ?_
       simp only [Act.put, pB, pC, pD]
       refine tN 7 (some 4) (.assign (.const .nilIface)) 106 .nilIface hS ?_
       simp only [pA, pB, pC, pD]
       clear hS
       refine wpAnyH_done (by kernel_rfl) ?_ _
       repeat go_step
       refine bodyPost_ret (result_cell_tmp2 Tryz.results72 _ _ (w.heap.size) [vs m, vs t, .int .i64 mi, .slice af nf cf, (.slice aB nB cB), .bool clv] _ _ rfl rfl rfl HA8.o.range Tryz.underlying48 rfl (by kernel_rfl)) rfl ?_
       rw [HE.o]
       exact ⟨⟨af, cf, .slice aB nB cB, congrArg (fun x => Ending.returned (.tuple #[x, .int .i64 ((k + nb : Nat) : Int), .nilIface])) (rqV_eq HNf.o HCv.o).symm, Ho ⟨by unfold FdO; rw [HNf.o]; exact HF8.o, HO8.o⟩⟩, HU8.o⟩
end Go.Proofs.YtehnnlhoajdcaaaGreatDoor
