import Derived.Test.YtbgjnghjddcooaaGreatDoorZa
namespace Go.Proofs.YtbgjnghjddcooaaGreatDoor
open Go.RowKit Go.Shelf TextNum
theorem result_cell_tmp2 {P : Program} {fn : Func} {q q2 q3 : Tmp} {T : TypeId} (h : fn.results = #[.cell q T, .tmp q2, .tmp q3]) (tmps : Array Value) (w : World) (b : Nat) (cs : List Value) (v v3 : Value) {d : TypeDesc}
    (hp : tmps.getD q undef = .pointer (some ⟨b, 0, none⟩)) (hv : tmps.getD q2 undef = v) (hv3 : tmps.getD q3 undef = v3) (hc : w.rangeAt b 0 cs) (hu : P.underlying T = some d) (hd : d.isRow = true) (hi : (P.info? T).map (·.size) = some cs.length) : (results fn tmps).run P w = .ok (.tuple #[.agg cs.toArray, v, v3]) w := by
  have hp' : tmps[q]?.getD undef = .pointer (some ⟨b, 0, none⟩) := by simpa using hp
  have hv' : tmps[q2]?.getD undef = v := by simpa using hv
  have hv3' : tmps[q3]?.getD undef = v3 := by simpa using hv3
  simp [results, h, hp', hv', hv3', asAddr, run_loadVar_mid w b 0 T cs _ hc hu hd hi]
theorem er_neq (ad : Nat → Addr) (k : Nat) : ∀ w, (binOp .neq 66 (erV ad k) .nilIface).run Tryz.prog w = .ok (.bool true) w := by
  intro w
  unfold erV
  split <;> kernel_rfl
theorem er_grd (ad : Nat → Addr) (k : Nat) : ∀ x y w, (eqGuard .neq 66 x y (erV ad k) .nilIface).run Tryz.prog w = .ok () w := by
  intro x y w
  unfold erV
  split <;> kernel_rfl
theorem exec_load6 {o : Oper} {ρ : Operand → Value} {x : Operand} {w : World} {b : Nat} {cs : List Value} (ho : o.op = .load 27 x) (hx : ρ x = .pointer (some ⟨b, 0, none⟩)) (h : w.rangeAt b 0 cs) (hl : (Tryz.prog.info? 27).map (·.size) = some cs.length := by kernel_rfl) : (execOp ρ o).run Tryz.prog w = .ok (.value (.agg cs.toArray)) w := by
  unfold execOp
  simp only [ho, hx]
  have := run_loadAt_mid (P := Tryz.prog) w b 0 27 cs _ h Tryz.underlying27 rfl hl
  simp [this]
theorem Sb.shape {w : World} {v : Value} {ds : List UInt8} (h : Sb w v ds) : ∃ a n c, v = .slice a n c := by
  obtain ⟨a, c, e, _⟩ := h
  exact ⟨a, _, c, e⟩
theorem lines_small (l : List UInt8) : ∀ x ∈ linesOf l, x.length ≤ l.length := by
  have key : ∀ (f : Nat) (l : List UInt8), ∀ x ∈ lns f l, x.length ≤ l.length := by
    intro f
    induction f with
    | zero => intro l x hx; cases hx
    | succ f ih =>
      intro l x hx
      unfold lns at hx
      split at hx
      · cases hx
      · rename_i hne
        simp only [List.mem_cons] at hx
        rcases hx with rfl | hx
        · exact (List.takeWhile_sublist _).length_le
        · have := ih _ x hx
          have := tail_lt hne
          omega
  exact key _ l
theorem rdf_small {l : List UInt8} {fs : List FD} (h : rdf l = .ok fs) : fs.length ≤ l.length ∧ ∀ f ∈ fs, f.n.size ≤ l.length ∧ f.v.size ≤ l.length := by
  unfold rdf at h
  split at h
  · cases h
  · split at h
    · injection h with h
      subst h
      refine ⟨by rw [List.length_map]; exact lines_len l, fun f hf => ?_⟩
      obtain ⟨x, hx, rfl⟩ := List.mem_map.1 hf
      have h1 := lines_small l x hx
      have h2 := tcr_len x
      have h3 := c_len 58 (tcr x)
      have h4 := trm_len (c2 58 (tcr x))
      unfold fln
      rw [str_len, str_len]
      omega
    · cases h
/-- all that the parser reads -/
structure GW (w : World) (ad : Nat → Addr) : Prop where
  ge : GE w ad
  gn : GN w
  mt : w.rangeAt 14 0 mtC
  kd : w.rangeAt 13 0 kdC
  gp : GP w
  gm : GM w
theorem GW.up {w w' : World} {ad : Nat → Addr} (h : GW w ad) (k : Up w w') : GW w' ad := ⟨h.ge.up k, h.gn.up k, range_up h.mt k, range_up h.kd k, h.gp.up k, h.gm.up k⟩
/-- a request but for its body -/
structure Rq where
  m : List UInt8
  t : List UInt8
  mi : Int
  fs : List FD
/-- what the head of a request tells -/
def rqg (st fl : List UInt8) : Er (Rq × Int × Nat) := match rql st with
  | .error e => .error e
  | .ok (m, t, mi) => match rdf fl with
    | .error e => .error e
    | .ok fs => match ckh fs mi with
      | some e => .error e
      | none => match frm fs mi 0 with
        | .error e => .error e
        | .ok (way, len) => .ok (⟨m, t, mi, fs⟩, way, len)
def rqP (l : List UInt8) : Er ((Rq × List UInt8) × Nat) := msg 9 rqg (fun x _ b => (x, b)) l
def rqV (x : Rq) (a : Option Addr) (c : Nat) (v : Value) : Value := .agg #[vs x.m, vs x.t, .int .i64 x.mi, .slice a x.fs.length c, v, .bool (cls (x.mi == 0) x.fs)]
theorem rqV_eq {m t : List UInt8} {mi : Int} {fs : List FD} {a : Option Addr} {c nf : Nat} {v : Value} {cl : Bool} (h1 : fs.length = nf) (h2 : cls (mi == 0) fs = cl) : rqV ⟨m, t, mi, fs⟩ a c v = .agg #[vs m, vs t, .int .i64 mi, .slice a nf c, v, .bool cl] := by
  unfold rqV
  dsimp only
  rw [h1, h2]
def RqR (ad : Nat → Addr) (w w' : World) (e : Ending) : Er ((Rq × List UInt8) × Nat) → Prop
  | .error k => e = .returned (.tuple #[.agg z6.toArray, .int .i64 0, erV ad k])
  | .ok ((x, b), n) => ∃ a c v, e = .returned (.tuple #[rqV x a c v, .int .i64 (n : Int), .nilIface]) ∧ Hid (FdO w' w.heap.size a x.fs c ∧ Ow w' w.heap.size v b)
theorem RqR_ev {ad : Nat → Addr} {w w' : World} {k : Nat} (h : k < 12) : RqR ad w w' (.returned (.tuple #[.agg z6.toArray, .int .i64 0, ev (ad k)])) (.error k) := by
  show Ending.returned _ = Ending.returned _
  unfold erV
  rw [if_pos h]
theorem rql_er {l : List UInt8} {k : Nat} (h : rql l = .error k) : k < 12 := by
  unfold rql at h
  split at h
  · injection h with h; omega
  · split at h
    · injection h with h; omega
    · split at h
      · rename_i hm
        injection h with h
        have := mno_er hm
        omega
      · cases h
theorem rdf_er {l : List UInt8} {k : Nat} (h : rdf l = .error k) : k < 12 := by
  unfold rdf at h
  split at h
  · injection h with h; omega
  · split at h
    · cases h
    · injection h with h; omega
theorem ckh_er {fs : List FD} {mi : Int} {k : Nat} (h : ckh fs mi = some k) : k = 6 := by
  unfold ckh at h
  split at h
  · exact (Option.some.inj h).symm
  · split at h
    · exact (Option.some.inj h).symm
    · cases h
theorem frm_er {fs : List FD} {mi u : Int} {k : Nat} (h : frm fs mi u = .error k) : k = 5 ∨ k = 7 := by
  unfold frm frl at h
  split at h
  · injection h with h; exact .inl h.symm
  · split at h
    · injection h with h; exact .inl h.symm
    · split at h
      · cases h
      · split at h
        · cases h
        · split at h
          · cases h
          · split at h
            · injection h with h; exact .inr h.symm
            · injection h with h; exact .inl h.symm
theorem frm_len {fs : List FD} {mi u way : Int} {n : Nat} (h : frm fs mi u = .ok (way, n)) : n ≤ 1048576 := by
  unfold frm frl at h
  split at h
  · cases h
  · split at h
    · cases h
    · split at h
      · injection h with h; injection h with e1 e2; omega
      · split at h
        · injection h with h; injection h with e1 e2; omega
        · split at h
          · injection h with h; injection h with e1 e2
            have := prs_ge (lst fs).data.toList
            omega
          · split at h <;> cases h
set_option maxRecDepth 100000 in
set_option maxHeartbeats 4000000 in
theorem readRequest_walk (ad : Nat → Addr) {a : Option Addr} {n c : Nat} {ds : List UInt8} (hn40 : n ≤ 1099511627776) (w : World) (hS : Sb w (.slice a n c) ds) (hW : GW w ad) : Calls Tryz.prog 27 #[.slice a n c] w fun e w' => RqR ad w w' e (rqP ds) ∧ Up w w' := by
  have HW := Hid.of hW
  clear hW
  obtain ⟨hn, hnc, hcm⟩ := hS.len
  unfold maxLen at hcm
  have HN := Hid.of hn
  have HSb := Hid.of hS
  clear hn hS
  have HA0 := Hid.of (at_new w 27 z6)
  have HU0 := Hid.of ((Up.refl w).alloc (.cells z6.toArray 27))
  obtain ⟨rv, hrv⟩ : ∃ rv, rqP ds = rv := ⟨_, rfl⟩
  have HR := Hid.of hrv
  rw [hrv]
  clear hrv
  unfold rqP msg at HR
  go_enter Tryz.func27, Tryz.ntmps27
  go_wp2_with (with_reducible show wpList _ _ _ ({ dst := _, op := Op.load 66 _, type := _, pos := _, after := _, guard := _ } :: _) _ _; refine Shut.out ?_)
  show wpList _ _ _ _ _ _
  obtain ⟨w1, hw1⟩ : ∃ w1, w.alloc (.cells z6.toArray 27) = w1 := ⟨_, rfl⟩
  rw [hw1] at HA0 HU0
  change wpList _ _ _ _ _ (w.alloc (.cells z6.toArray 27))
  rw [hw1]
  clear hw1
  have hgl : w1.cell? ⟨0, 0, none⟩ = some (ev (ad 9)) := (HW.out.ge.up HU0.out).gl 9 (by decide)
  go_wp2_with fail
  refine (cutHead_walk ad 9 hn40 w1 (HSb.out.up HU0.out) (HW.out.ge.up HU0.out)).mono ?_
  rintro e w2 ⟨rfl, h9⟩
  have HU2 := Hid.of (HU0.out.trans h9)
  have HA2 := Hid.of (HA0.out.up h9)
  clear h9 hgl
  cases hc : cHd 9 ds with
  | error k =>
    rw [hc] at HR
    have HE := Hid.of (show rv = .error k from HR.out.symm)
    have hne := er_neq ad k
    have hge := er_grd ad k
    unfold hR z3
    dsimp only
    go_wp2_with (with_reducible show wpList _ _ _ ({ dst := _, op := Op.store 27 (Operand.tmp 2) _, type := _, pos := _, after := _, guard := _ } :: _) _ _; refine Shut.out ?_)
    show wpList _ _ _ _ _ _
    refine wpList_store_at rfl 27 _ _ rfl (w.heap.size) (HA2.out.up ((Up.refl w2).alloc _)) z6 rfl rfl rfl (by kernel_rfl) (by kernel_rfl) ?_
    intro w8 hA8 hg8
    have HA8 := Hid.of hA8
    have HU8 := Hid.of ((HU2.out.alloc _).by hg8 (fun g hg => by have := Option.some.inj hg; omega))
    clear hA8 hg8
    simp only [Act.put]
    repeat go_step
    refine bodyPost_ret (result_cell_tmp2 Tryz.results27 _ _ (w.heap.size) z6 _ _ rfl rfl rfl HA8.out.range Tryz.underlying27 rfl (by kernel_rfl)) rfl ?_
    rw [HE.out]
    exact ⟨rfl, HU8.out⟩
  | ok q =>
    obtain ⟨st, fl, k⟩ := q
    rw [hc] at HR
    have hck := cHd_ok hc
    have hkn : k ≤ n := by rw [HN.out]; exact hck.2.1
    have hst : st.length ≤ 8000 := hck.2.2.1
    have hfll : fl.length ≤ 16384 := hck.2.2.2.1
    unfold hR
    dsimp only at HR ⊢
    clear hck hc
    go_wp2_with fail
    obtain ⟨w3, hw3⟩ : ∃ w3, w2.alloc (.cells #[vs st, vs fl, .int .i64 (k : Int)] 92) = w3 := ⟨_, rfl⟩
    have HH3 := Hid.of (show At w3 w2.heap.size 92 [vs st, vs fl, .int .i64 (k : Int)] by rw [← hw3]; exact at_new w2 92 [vs st, vs fl, .int .i64 (k : Int)])
    have hu3 : Up w2 w3 := by rw [← hw3]; exact (Up.refl w2).alloc _
    have HU3 := Hid.of (HU2.out.trans hu3)
    have HA3 := Hid.of (HA2.out.up hu3)
    change Calls _ _ _ (w2.alloc (.cells #[vs st, vs fl, .int .i64 (k : Int)] 92)) _
    rw [hw3]
    clear hw3 hu3
    refine (readRequestLine_walk ad ⟨st.toArray⟩ (by rw [str_len]; omega) w3 (HW.out.up HU3.out).ge (HW.out.up HU3.out).gn (HW.out.up HU3.out).mt).mono ?_
    rintro e w4 ⟨rfl, h9⟩
    have HU4 := Hid.of (HU3.out.trans h9)
    have HA4 := Hid.of (HA3.out.up h9)
    have HH4 := Hid.of (HH3.out.up h9)
    clear h9 HH3
    unfold rqg at HR
    cases hl : rql st with
    | error e1 =>
      rw [hl] at HR
      have HE := Hid.of (show rv = .error e1 from HR.out.symm)
      have HK := Hid.of (rql_er hl)
      unfold rlR z6
      dsimp only
      go_wp2_with (with_reducible show wpList _ _ _ ({ dst := _, op := Op.store 27 (Operand.tmp 2) _, type := _, pos := _, after := _, guard := _ } :: _) _ _; refine Shut.out ?_)
      show wpList _ _ _ _ _ _
      refine wpList_store_at rfl 27 _ _ rfl (w.heap.size) (HA4.out.up ((Up.refl w4).alloc _)) z6 rfl rfl rfl (by kernel_rfl) (by kernel_rfl) ?_
      intro w8 hA8 hg8
      have HA8 := Hid.of hA8
      have HU8 := Hid.of ((HU4.out.alloc _).by hg8 (fun g hg => by have := Option.some.inj hg; omega))
      clear hA8 hg8
      simp only [Act.put]
      repeat go_step
      refine bodyPost_ret (result_cell_tmp2 Tryz.results27 _ _ (w.heap.size) z6 _ _ rfl rfl rfl HA8.out.range Tryz.underlying27 rfl (by kernel_rfl)) rfl ?_
      rw [HE.out]
      exact ⟨RqR_ev HK.out, HU8.out⟩
    | ok q1 =>
      obtain ⟨m, t, mi⟩ := q1
      rw [hl] at HR
      unfold rlR
      dsimp only at HR ⊢
      clear hl
      have HUw4 := Hid.of HU4.out
      have HUw4s := Hid.of (show w.heap.size < w4.heap.size from lt_of_at HA4.out)
      have h1 : (w4.alloc (.cells #[vs m, vs t, .int .i64 mi, .slice none 0 0, .slice none 0 0, .bool false] 27)).cell? ⟨w2.heap.size, 1, none⟩ = some (vs fl) := (HH4.out.up ((Up.refl w4).alloc _)).cell (i := 1) rfl
      go_wp2_with fail
      obtain ⟨w5, hw5⟩ : ∃ w5, w4.alloc (.cells #[vs m, vs t, .int .i64 mi, .slice none 0 0, .slice none 0 0, .bool false] 27) = w5 := ⟨_, rfl⟩
      have HR5 := Hid.of (show At w5 w4.heap.size 27 [vs m, vs t, .int .i64 mi, .slice none 0 0, .slice none 0 0, .bool false] by rw [← hw5]; exact at_new w4 27 [vs m, vs t, .int .i64 mi, .slice none 0 0, .slice none 0 0, .bool false])
      have hu5 : Up w4 w5 := by rw [← hw5]; exact (Up.refl w4).alloc _
      have HU5 := Hid.of (HU4.out.trans hu5)
      have HA5 := Hid.of (HA4.out.up hu5)
      have HH5 := Hid.of (HH4.out.up hu5)
      change Calls _ _ _ (w4.alloc (.cells #[vs m, vs t, .int .i64 mi, .slice none 0 0, .slice none 0 0, .bool false] 27)) _
      rw [hw5]
      clear hw5 hu5 h1
      refine (readFields_walk ad ⟨fl.toArray⟩ (by rw [str_len]; exact hfll) w5 (HW.out.up HU5.out).ge).mono ?_
      rintro e w6 ⟨hRd, h9⟩
      have HU6 := Hid.of (HU5.out.trans h9)
      have HA6 := Hid.of (HA5.out.up h9)
      have HH6 := Hid.of (HH5.out.up h9)
      have HR6 := Hid.of (HR5.out.up h9)
      have HU56 := Hid.of h9
      clear h9
      have q3 : w6.cell? ⟨w4.heap.size, 3, none⟩ = some (.slice none 0 0) := HR6.out.cell (i := 3) rfl
      have p3 := HR6.out.thaw 3
      have hrne : w4.heap.size ≠ w.heap.size := by have := HUw4s.out; omega
      cases hd : rdf fl with
      | error e2 =>
        rw [hd] at HR
        have HE := Hid.of (show rv = .error e2 from HR.out.symm)
        have HK := Hid.of (rdf_er hd)
        rw [show (⟨fl.toArray⟩ : ByteArray).data.toList = fl from rfl, hd] at hRd
        obtain rfl : e = _ := hRd
        dsimp only
        have HG3 := Hid.of (grown_at w6 w4.heap.size 3 (.slice none 0 0))
        go_wp2_with (with_reducible show wpList _ _ _ ({ dst := _, op := Op.store 27 (Operand.tmp 2) _, type := _, pos := _, after := _, guard := _ } :: _) _ _; refine Shut.out ?_)
        show wpList _ _ _ _ _ _
        refine wpList_store_at rfl 27 _ _ rfl (w.heap.size) (HA6.out.by HG3.out (fun e => hrne (Option.some.inj e))) z6 rfl rfl rfl (by kernel_rfl) (by kernel_rfl) ?_
        intro w8 hA8 hg8
        have HA8 := Hid.of hA8
        have HU8 := Hid.of ((HU6.out.by HG3.out (fun g hg => by have := Option.some.inj hg; have := HUw4.out.size; omega)).by hg8 (fun g hg => by have := Option.some.inj hg; omega))
        clear hA8 hg8
        simp only [Act.put]
        repeat go_step
        refine bodyPost_ret (result_cell_tmp2 Tryz.results27 _ _ (w.heap.size) z6 _ _ rfl rfl rfl HA8.out.range Tryz.underlying27 rfl (by kernel_rfl)) rfl ?_
        rw [HE.out]
        exact ⟨RqR_ev HK.out, HU8.out⟩
      | ok fs =>
        rw [hd] at HR
        rw [show (⟨fl.toArray⟩ : ByteArray).data.toList = fl from rfl, hd] at hRd
        obtain ⟨af, cf, rfl, hFO⟩ := hRd
        have hsm := rdf_small hd
        have hfl2 : fs.length ≤ 1048576 := by omega
        have HSm := Hid.of (show ∀ f ∈ fs, f.v.size ≤ 1048576 from fun f hf => by have := (hsm.2 f hf).2; omega)
        clear hsm hd
        dsimp only at HR ⊢
        have HFO6 := Hid.of (ow_base hFO.out HU5.out.size)
        clear hFO
        obtain ⟨nf, hnf⟩ : ∃ nf, fs.length = nf := ⟨_, rfl⟩
        have HNf := Hid.of hnf
        rw [hnf] at HFO6 ⊢
        clear hnf
        have HG3 := Hid.of (grown_at w6 w4.heap.size 3 (.slice af nf cf))
        have HR7 := Hid.of (HR6.out.set 3 (.slice af nf cf))
        dsimp only [List.set_cons_zero, List.set_cons_succ] at HR7
        have HA7 := Hid.of (HA6.out.by HG3.out (fun e => hrne (Option.some.inj e)))
        have hhne := HH6.out.ne HR6.out (by decide)
        have HH7 := Hid.of (HH6.out.by HG3.out (fun e => hhne (Option.some.inj e).symm))
        have HU7 := Hid.of (HU6.out.by HG3.out (fun g hg => by have := Option.some.inj hg; have := HUw4.out.size; omega))
        have HFO7 := Hid.of (HFO6.out.kept HG3.out (.inr (own_ne HFO6.out HR6.out (by decide))))
        have r2 : (w6.setCell ⟨w4.heap.size, 3, none⟩ (.slice af nf cf)).cell? ⟨w4.heap.size, 2, none⟩ = some (.int .i64 mi) := HR7.out.cell (i := 2) rfl
        have r3 : (w6.setCell ⟨w4.heap.size, 3, none⟩ (.slice af nf cf)).cell? ⟨w4.heap.size, 3, none⟩ = some (.slice af nf cf) := HR7.out.cell (i := 3) rfl
        clear HG3 hhne HR6 HA6 HH6 HFO6
        go_wp2_with fail
        change Calls _ _ _ (w6.setCell ⟨w4.heap.size, 3, none⟩ (.slice af nf cf)) _
        obtain ⟨w7, hw7⟩ : ∃ w7, w6.setCell ⟨w4.heap.size, 3, none⟩ (.slice af nf cf) = w7 := ⟨_, rfl⟩
        rw [hw7] at HR7 HA7 HH7 HU7 HFO7 ⊢
        clear hw7 r2 r3 q3 p3
        have HFd := Hid.of (show FdL w7 af fs cf by have h := HFO7.out; rw [← HNf.out] at h; exact FdO.fdl h)
        have HCh := Hid.of (checkHost_walk ad af fs cf mi w7 HFd.out hfl2 HSm.out (HW.out.up HU7.out).ge (HW.out.up HU7.out).kd)
        rw [HNf.out] at HCh
        refine HCh.out.mono ?_
        rintro e w8' ⟨rfl, h9⟩
        have HU8' := Hid.of (HU7.out.trans h9)
        have HA8' := Hid.of (HA7.out.up h9)
        have HH8' := Hid.of (HH7.out.up h9)
        have HR8' := Hid.of (HR7.out.up h9)
        have HFO8' := Hid.of (ow_up HFO7.out h9)
        have HFd8' := Hid.of (HFd.out.up h9)
        clear h9 HCh
        cases hk : ckh fs mi with
        | some e3 =>
          rw [hk] at HR
          have HE := Hid.of (show rv = .error e3 from HR.out.symm)
          have HK := Hid.of (show e3 < 12 by have := ckh_er hk; omega)
          unfold eoV
          dsimp only
          go_wp2_with (with_reducible show wpList _ _ _ ({ dst := _, op := Op.store 27 (Operand.tmp 2) _, type := _, pos := _, after := _, guard := _ } :: _) _ _; refine Shut.out ?_)
          show wpList _ _ _ _ _ _
          refine wpList_store_at rfl 27 _ _ rfl (w.heap.size) (HA8'.out) z6 rfl rfl rfl (by kernel_rfl) (by kernel_rfl) ?_
          intro w8 hA8 hg8
          have HA8 := Hid.of hA8
          have HU8 := Hid.of ((HU8'.out).by hg8 (fun g hg => by have := Option.some.inj hg; omega))
          clear hA8 hg8
          simp only [Act.put]
          repeat go_step
          refine bodyPost_ret (result_cell_tmp2 Tryz.results27 _ _ (w.heap.size) z6 _ _ rfl rfl rfl HA8.out.range Tryz.underlying27 rfl (by kernel_rfl)) rfl ?_
          rw [HE.out]
          exact ⟨RqR_ev HK.out, HU8.out⟩
        | none =>
          rw [hk] at HR
          unfold eoV
          dsimp only at HR ⊢
          clear hk
          have r2 : w8'.cell? ⟨w4.heap.size, 2, none⟩ = some (.int .i64 mi) := HR8'.out.cell (i := 2) rfl
          have r3 : w8'.cell? ⟨w4.heap.size, 3, none⟩ = some (.slice af nf cf) := HR8'.out.cell (i := 3) rfl
          have HFm := Hid.of (framingOf_walk ad af fs cf mi 0 w8' HFd8'.out hfl2 HSm.out (HW.out.up HU8'.out).ge (HW.out.up HU8'.out).kd (HW.out.up HU8'.out).gp)
          rw [HNf.out] at HFm
          go_wp2_with fail
          refine HFm.out.mono ?_
          rintro e w9 ⟨rfl, h9⟩
          have HU9 := Hid.of (HU8'.out.trans h9)
          have HA9 := Hid.of (HA8'.out.up h9)
          have HH9 := Hid.of (HH8'.out.up h9)
          have HR9 := Hid.of (HR8'.out.up h9)
          have HFO9 := Hid.of (ow_up HFO8'.out h9)
          have HFd9 := Hid.of (HFd8'.out.up h9)
          clear h9 HFm r2 r3
          cases hf0 : frm fs mi 0 with
          | error e4 =>
            rw [hf0] at HR
            have HE := Hid.of (show rv = .error e4 from HR.out.symm)
            have HK := Hid.of (show e4 < 12 by have := frm_er hf0; omega)
            unfold frR z2
            dsimp only
            go_wp2_with (with_reducible show wpList _ _ _ ({ dst := _, op := Op.store 27 (Operand.tmp 2) _, type := _, pos := _, after := _, guard := _ } :: _) _ _; refine Shut.out ?_)
            show wpList _ _ _ _ _ _
            refine wpList_store_at rfl 27 _ _ rfl (w.heap.size) (HA9.out.up ((Up.refl w9).alloc _)) z6 rfl rfl rfl (by kernel_rfl) (by kernel_rfl) ?_
            intro w8 hA8 hg8
            have HA8 := Hid.of hA8
            have HU8 := Hid.of ((HU9.out.alloc _).by hg8 (fun g hg => by have := Option.some.inj hg; omega))
            clear hA8 hg8
            simp only [Act.put]
            repeat go_step
            refine bodyPost_ret (result_cell_tmp2 Tryz.results27 _ _ (w.heap.size) z6 _ _ rfl rfl rfl HA8.out.range Tryz.underlying27 rfl (by kernel_rfl)) rfl ?_
            rw [HE.out]
            exact ⟨RqR_ev HK.out, HU8.out⟩
          | ok q4 =>
            obtain ⟨way, len⟩ := q4
            rw [hf0] at HR
            have hlen := frm_len hf0
            unfold frR
            dsimp only at HR ⊢
            clear hf0
            go_wp2
            obtain ⟨wA, hwA⟩ : ∃ wA, w9.alloc (.cells #[.int .i64 way, .int .i64 (len : Int)] 101) = wA := ⟨_, rfl⟩
            have HFA := Hid.of (show At wA w9.heap.size 101 [.int .i64 way, .int .i64 (len : Int)] by rw [← hwA]; exact at_new w9 101 [.int .i64 way, .int .i64 (len : Int)])
            have huA : Up w9 wA := by rw [← hwA]; exact (Up.refl w9).alloc _
            have HUA := Hid.of (HU9.out.trans huA)
            have HAA := Hid.of (HA9.out.up huA)
            have HHA := Hid.of (HH9.out.up huA)
            have HRA := Hid.of (HR9.out.up huA)
            have HFO := Hid.of (ow_up HFO9.out huA)
            have HFA2 := Hid.of (HFd9.out.up huA)
            change Code.wp _ _ _ _ (w9.alloc (.cells #[.int .i64 way, .int .i64 (len : Int)] 101))
            rw [hwA]
            clear hwA huA HU9 HA9 HH9 HR9 HFO9 HFd9
            have hSk := HSb.out.sub k n hkn (by rw [← HN.out]; exact Nat.le_refl _)
            rw [show (ds.take n).drop k = ds.drop k by rw [HN.out, List.take_length]] at hSk
            have HCt := Hid.of (fun (w2 : World) (hu : Up wA w2) => cut_walk ad way len (by omega) (by omega) w2 (hSk.up (HUA.out.trans hu)) (HW.out.up (HUA.out.trans hu)).ge)
            clear hSk
            have HRes := Hid.of (show ∀ r : Er ((Rq × List UInt8) × Nat), (match fcu way len (ds.drop k) with | .error e => .error e | .ok (b, n) => .ok ((⟨m, t, mi, fs⟩, b), k + n)) = r → rv = r from fun r hr => by
              rw [← HR.out, ← hr]
              cases fcu way len (ds.drop k) <;> rfl)
            clear HR
            refine wp_region_held_drew (S := fun w2 => Up wA w2) (by kernel_rfl) (Up.refl wA).drew (fun hS => ?_)
            refine wpAnyH_take (i := 0) (oi := { dst := some 64, op := Go.Op.load 101 (Go.Operand.tmp 8), type := 101, pos := "message.go:22", after := #[], guard := none }) (v := .agg #[.int .i64 way, .int .i64 (len : Int)]) rfl (by kernel_rfl) (by kernel_rfl) (by kernel_rfl) (fun _ _ _ h => h) (Or.inl ⟨by kernel_rfl, ?_⟩) hS ?_
            · intro w5 hSw
              have hf0 : w5.cell? ⟨w9.heap.size, 0, none⟩ = some (.int .i64 way) := hSw.cell (HFA.out.cell (i := 0) rfl)
              have hf1 : w5.cell? ⟨w9.heap.size, 1, none⟩ = some (.int .i64 (len : Int)) := hSw.cell (HFA.out.cell (i := 1) rfl)
              clear hSw hS
              go_simp
            simp only [Act.put, List.setIfInBounds_toArray, List.set_cons_zero, List.set_cons_succ]
            refine wpAnyH_take (i := 1) (oi := { dst := some 65, op := Go.Op.move (Go.Operand.tmp 0), type := 22, pos := "message.go:22", after := #[], guard := none }) (v := .slice a n c) rfl (by kernel_rfl) (by kernel_rfl) (by kernel_rfl) (fun _ _ _ h => h) (Or.inl ⟨by kernel_rfl, ?_⟩) hS ?_
            · intro w5 hSw
              clear hSw hS
              go_simp
            simp only [Act.put, List.setIfInBounds_toArray, List.set_cons_zero, List.set_cons_succ]
            refine wpAnyH_take (i := 2) (oi := { dst := some 66, op := Go.Op.fieldAddr 92 (Go.Operand.tmp 5) 2, type := 0, pos := "message.go:22", after := #[], guard := none }) (v := .pointer (some ⟨w2.heap.size, 2, none⟩)) rfl (by kernel_rfl) (by kernel_rfl) (by kernel_rfl) (fun _ _ _ h => h) (Or.inl ⟨by kernel_rfl, ?_⟩) hS ?_
            · intro w5 hSw
              clear hSw hS
              go_simp
            simp only [Act.put, List.setIfInBounds_toArray, List.set_cons_zero, List.set_cons_succ]
            refine wpAnyH_take (i := 3) (oi := { dst := some 67, op := Go.Op.load 3 (Go.Operand.tmp 66), type := 3, pos := "message.go:22", after := #[{ on := 2, ground := Go.Ground.data }], guard := none }) (v := .int .i64 (k : Int)) rfl (by kernel_rfl) (by kernel_rfl) (by kernel_rfl) (fun _ _ _ h => h) (Or.inl ⟨by kernel_rfl, ?_⟩) hS ?_
            · intro w5 hSw
              have hh2 : w5.cell? ⟨w2.heap.size, 2, none⟩ = some (.int .i64 (k : Int)) := hSw.cell (HHA.out.cell (i := 2) rfl)
              clear hSw hS
              go_simp
            simp only [Act.put, List.setIfInBounds_toArray, List.set_cons_zero, List.set_cons_succ]
            refine wpAnyH_take (i := 4) (oi := { dst := some 68, op := Go.Op.slice 22 (Go.Operand.tmp 65) (some (Go.Operand.tmp 67)) none none, type := 22, pos := "message.go:22", after := #[{ on := 1, ground := Go.Ground.data }, { on := 3, ground := Go.Ground.data }], guard := none }) (v := .slice (sv a c k) (n - k) (c - k)) rfl (by kernel_rfl) (by kernel_rfl) (by kernel_rfl) (fun _ _ _ h => h) (Or.inl ⟨by kernel_rfl, ?_⟩) hS ?_
            · intro w5 hSw
              clear hSw hS
              exact exec_sublo (by omega) rfl rfl rfl
            simp only [Act.put, List.setIfInBounds_toArray, List.set_cons_zero, List.set_cons_succ]
            refine wpAnyH_ready (rs := [5]) (by kernel_rfl) (by simp) ?_
            refine AllReadyH.cons (o := { dst := some 69, op := Go.Op.call { callee := Go.Callee.value (Go.Operand.func 52), args := #[Go.Operand.tmp 64, Go.Operand.tmp 68], argTypes := #[101, 22] }, type := 77, pos := "message.go:22", after := #[{ on := 0, ground := Go.Ground.data }, { on := 4, ground := Go.Ground.data }], guard := none }) rfl (fun K hK => ?_) AllReadyH.nil
            rw [if_pos (by kernel_rfl)]
            go_simp
            refine (HCt.out _ hS).mono ?_
            rintro e wB ⟨hUn, u5⟩
            have HSB := Hid.of (hS.trans u5)
            have HSs := Hid.of hS
            clear u5 hS
            cases hf : fcu way len (ds.drop k) with
            | error e9 =>
              rw [hf] at hUn
              obtain rfl : e = _ := hUn
              dsimp only
              refine hK.out _ _ HSB.out (fun hS => ?_)
              clear hK K
              refine wpAnyH_take (i := 6) (oi := { dst := some 63, op := Go.Op.move (Go.Operand.tmp 69), type := 77, pos := "message.go:22", after := #[{ on := 5, ground := Go.Ground.data }], guard := none }) (v := .tuple #[.slice none 0 0, .int .i64 0, erV ad e9]) rfl (by kernel_rfl) (by kernel_rfl) (by kernel_rfl) (fun _ _ _ h => h) (Or.inl ⟨by kernel_rfl, ?_⟩) hS ?_
              · intro w5 hSw
                clear hSw hS
                go_simp
              simp only [Act.put, List.setIfInBounds_toArray, List.set_cons_zero, List.set_cons_succ]
              refine wpAnyH_take (i := 7) (oi := { dst := some 70, op := Go.Op.extract (Go.Operand.tmp 63) 0, type := 22, pos := "message.go:22", after := #[{ on := 6, ground := Go.Ground.data }], guard := none }) (v := .slice none 0 0) rfl (by kernel_rfl) (by kernel_rfl) (by kernel_rfl) (fun _ _ _ h => h) (Or.inl ⟨by kernel_rfl, ?_⟩) hS ?_
              · intro w5 hSw
                clear hSw hS
                go_simp
              simp only [Act.put, List.setIfInBounds_toArray, List.set_cons_zero, List.set_cons_succ]
              refine wpAnyH_take (i := 8) (oi := { dst := some 71, op := Go.Op.extract (Go.Operand.tmp 63) 1, type := 3, pos := "message.go:22", after := #[{ on := 6, ground := Go.Ground.data }, { on := 10, ground := Go.Ground.gcOnly Go.Departure.lateStores }], guard := none }) (v := .int .i64 0) rfl (by kernel_rfl) (by kernel_rfl) (by kernel_rfl) (fun _ _ _ h => h) (Or.inl ⟨by kernel_rfl, ?_⟩) hS ?_
              · intro w5 hSw
                clear hSw hS
                go_simp
              simp only [Act.put, List.setIfInBounds_toArray, List.set_cons_zero, List.set_cons_succ]
              refine wpAnyH_take (i := 9) (oi := { dst := some 72, op := Go.Op.extract (Go.Operand.tmp 63) 2, type := 66, pos := "message.go:22", after := #[{ on := 6, ground := Go.Ground.data }, { on := 11, ground := Go.Ground.gcOnly Go.Departure.lateStores }], guard := none }) (v := erV ad e9) rfl (by kernel_rfl) (by kernel_rfl) (by kernel_rfl) (fun _ _ _ h => h) (Or.inl ⟨by kernel_rfl, ?_⟩) hS ?_
              · intro w5 hSw
                clear hSw hS
                go_simp
              simp only [Act.put, List.setIfInBounds_toArray, List.set_cons_zero, List.set_cons_succ]
              refine wpAnyH_take (i := 10) (oi := { dst := some 9, op := Go.Op.assign (Go.Operand.tmp 70), type := 22, pos := "message.go:22", after := #[{ on := 7, ground := Go.Ground.data }, { on := 5, ground := Go.Ground.chain }, { on := 0, ground := Go.Ground.phase }, { on := 1, ground := Go.Ground.phase }, { on := 2, ground := Go.Ground.phase }, { on := 3, ground := Go.Ground.phase }, { on := 4, ground := Go.Ground.phase }, { on := 5, ground := Go.Ground.phase }, { on := 6, ground := Go.Ground.phase }, { on := 7, ground := Go.Ground.phase }, { on := 8, ground := Go.Ground.textOnly Go.Departure.lateStores }, { on := 9, ground := Go.Ground.textOnly Go.Departure.lateStores }], guard := none }) (v := .slice none 0 0) rfl (by kernel_rfl) (by kernel_rfl) (by kernel_rfl) (fun _ _ _ h => h) (Or.inl ⟨by kernel_rfl, ?_⟩) hS ?_
              · intro w5 hSw
                clear hSw hS
                go_simp
              simp only [Act.put, List.setIfInBounds_toArray, List.set_cons_zero, List.set_cons_succ]
              refine wpAnyH_take (i := 11) (oi := { dst := some 10, op := Go.Op.assign (Go.Operand.tmp 71), type := 3, pos := "message.go:22", after := #[{ on := 8, ground := Go.Ground.data }, { on := 10, ground := Go.Ground.chain }, { on := 0, ground := Go.Ground.phase }, { on := 1, ground := Go.Ground.phase }, { on := 2, ground := Go.Ground.phase }, { on := 3, ground := Go.Ground.phase }, { on := 4, ground := Go.Ground.phase }, { on := 5, ground := Go.Ground.phase }, { on := 6, ground := Go.Ground.phase }, { on := 7, ground := Go.Ground.phase }, { on := 8, ground := Go.Ground.phase }, { on := 9, ground := Go.Ground.textOnly Go.Departure.lateStores }, { on := 10, ground := Go.Ground.phase }], guard := none }) (v := .int .i64 0) rfl (by kernel_rfl) (by kernel_rfl) (by kernel_rfl) (fun _ _ _ h => h) (Or.inl ⟨by kernel_rfl, ?_⟩) hS ?_
              · intro w5 hSw
                clear hSw hS
                go_simp
              simp only [Act.put, List.setIfInBounds_toArray, List.set_cons_zero, List.set_cons_succ]
              refine wpAnyH_take (i := 12) (oi := { dst := some 6, op := Go.Op.assign (Go.Operand.tmp 72), type := 66, pos := "message.go:22", after := #[{ on := 9, ground := Go.Ground.data }, { on := 11, ground := Go.Ground.chain }, { on := 0, ground := Go.Ground.phase }, { on := 1, ground := Go.Ground.phase }, { on := 2, ground := Go.Ground.phase }, { on := 3, ground := Go.Ground.phase }, { on := 4, ground := Go.Ground.phase }, { on := 5, ground := Go.Ground.phase }, { on := 6, ground := Go.Ground.phase }, { on := 7, ground := Go.Ground.phase }, { on := 8, ground := Go.Ground.phase }, { on := 9, ground := Go.Ground.phase }, { on := 10, ground := Go.Ground.phase }, { on := 11, ground := Go.Ground.phase }], guard := none }) (v := erV ad e9) rfl (by kernel_rfl) (by kernel_rfl) (by kernel_rfl) (fun _ _ _ h => h) (Or.inl ⟨by kernel_rfl, ?_⟩) hS ?_
              · intro w5 hSw
                clear hSw hS
                go_simp
              simp only [Act.put, List.setIfInBounds_toArray, List.set_cons_zero, List.set_cons_succ]
              clear hS
              refine wpAnyH_done (by kernel_rfl) ?_ _
              have hne := er_neq ad e9
              have hge := er_grd ad e9
              have HE := Hid.of (HRes.out (.error e9) (by rw [hf]))
              go_wp2_with (with_reducible show wpList _ _ _ ({ dst := _, op := Op.store 27 (Operand.tmp 2) _, type := _, pos := _, after := _, guard := _ } :: _) _ _; refine Shut.out ?_)
              show wpList _ _ _ _ _ _
              refine wpList_store_at rfl 27 _ _ rfl (w.heap.size) (HAA.out.up HSB.out) z6 rfl rfl rfl (by kernel_rfl) (by kernel_rfl) ?_
              intro w8 hA8 hg8
              have HA8 := Hid.of hA8
              have HU8 := Hid.of ((HUA.out.trans HSB.out).by hg8 (fun g hg => by have := Option.some.inj hg; omega))
              clear hA8 hg8
              simp only [Act.put]
              repeat go_step
              refine bodyPost_ret (result_cell_tmp2 Tryz.results27 _ _ (w.heap.size) z6 _ _ rfl rfl rfl HA8.out.range Tryz.underlying27 rfl (by kernel_rfl)) rfl ?_
              rw [HE.out]
              exact ⟨rfl, HU8.out⟩
            | ok q9 =>
              obtain ⟨bo, nb⟩ := q9
              rw [hf] at hUn
              obtain ⟨vB, rfl, hoB⟩ := hUn
              have HOB := Hid.of (ow_base hoB.out (Nat.le_trans HUA.out.size HSs.out.size))
              clear hoB
              dsimp only
              refine hK.out _ _ HSB.out (fun hS => ?_)
              clear hK K
              refine wpAnyH_take (i := 6) (oi := { dst := some 63, op := Go.Op.move (Go.Operand.tmp 69), type := 77, pos := "message.go:22", after := #[{ on := 5, ground := Go.Ground.data }], guard := none }) (v := .tuple #[vB, .int .i64 (nb : Int), .nilIface]) rfl (by kernel_rfl) (by kernel_rfl) (by kernel_rfl) (fun _ _ _ h => h) (Or.inl ⟨by kernel_rfl, ?_⟩) hS ?_
              · intro w5 hSw
                clear hSw hS
                go_simp
              simp only [Act.put, List.setIfInBounds_toArray, List.set_cons_zero, List.set_cons_succ]
              refine wpAnyH_take (i := 7) (oi := { dst := some 70, op := Go.Op.extract (Go.Operand.tmp 63) 0, type := 22, pos := "message.go:22", after := #[{ on := 6, ground := Go.Ground.data }], guard := none }) (v := vB) rfl (by kernel_rfl) (by kernel_rfl) (by kernel_rfl) (fun _ _ _ h => h) (Or.inl ⟨by kernel_rfl, ?_⟩) hS ?_
              · intro w5 hSw
                clear hSw hS
                go_simp
              simp only [Act.put, List.setIfInBounds_toArray, List.set_cons_zero, List.set_cons_succ]
              refine wpAnyH_take (i := 8) (oi := { dst := some 71, op := Go.Op.extract (Go.Operand.tmp 63) 1, type := 3, pos := "message.go:22", after := #[{ on := 6, ground := Go.Ground.data }, { on := 10, ground := Go.Ground.gcOnly Go.Departure.lateStores }], guard := none }) (v := .int .i64 (nb : Int)) rfl (by kernel_rfl) (by kernel_rfl) (by kernel_rfl) (fun _ _ _ h => h) (Or.inl ⟨by kernel_rfl, ?_⟩) hS ?_
              · intro w5 hSw
                clear hSw hS
                go_simp
              simp only [Act.put, List.setIfInBounds_toArray, List.set_cons_zero, List.set_cons_succ]
              refine wpAnyH_take (i := 9) (oi := { dst := some 72, op := Go.Op.extract (Go.Operand.tmp 63) 2, type := 66, pos := "message.go:22", after := #[{ on := 6, ground := Go.Ground.data }, { on := 11, ground := Go.Ground.gcOnly Go.Departure.lateStores }], guard := none }) (v := .nilIface) rfl (by kernel_rfl) (by kernel_rfl) (by kernel_rfl) (fun _ _ _ h => h) (Or.inl ⟨by kernel_rfl, ?_⟩) hS ?_
              · intro w5 hSw
                clear hSw hS
                go_simp
              simp only [Act.put, List.setIfInBounds_toArray, List.set_cons_zero, List.set_cons_succ]
              refine wpAnyH_take (i := 10) (oi := { dst := some 9, op := Go.Op.assign (Go.Operand.tmp 70), type := 22, pos := "message.go:22", after := #[{ on := 7, ground := Go.Ground.data }, { on := 5, ground := Go.Ground.chain }, { on := 0, ground := Go.Ground.phase }, { on := 1, ground := Go.Ground.phase }, { on := 2, ground := Go.Ground.phase }, { on := 3, ground := Go.Ground.phase }, { on := 4, ground := Go.Ground.phase }, { on := 5, ground := Go.Ground.phase }, { on := 6, ground := Go.Ground.phase }, { on := 7, ground := Go.Ground.phase }, { on := 8, ground := Go.Ground.textOnly Go.Departure.lateStores }, { on := 9, ground := Go.Ground.textOnly Go.Departure.lateStores }], guard := none }) (v := vB) rfl (by kernel_rfl) (by kernel_rfl) (by kernel_rfl) (fun _ _ _ h => h) (Or.inl ⟨by kernel_rfl, ?_⟩) hS ?_
              · intro w5 hSw
                clear hSw hS
                go_simp
              simp only [Act.put, List.setIfInBounds_toArray, List.set_cons_zero, List.set_cons_succ]
              refine wpAnyH_take (i := 11) (oi := { dst := some 10, op := Go.Op.assign (Go.Operand.tmp 71), type := 3, pos := "message.go:22", after := #[{ on := 8, ground := Go.Ground.data }, { on := 10, ground := Go.Ground.chain }, { on := 0, ground := Go.Ground.phase }, { on := 1, ground := Go.Ground.phase }, { on := 2, ground := Go.Ground.phase }, { on := 3, ground := Go.Ground.phase }, { on := 4, ground := Go.Ground.phase }, { on := 5, ground := Go.Ground.phase }, { on := 6, ground := Go.Ground.phase }, { on := 7, ground := Go.Ground.phase }, { on := 8, ground := Go.Ground.phase }, { on := 9, ground := Go.Ground.textOnly Go.Departure.lateStores }, { on := 10, ground := Go.Ground.phase }], guard := none }) (v := .int .i64 (nb : Int)) rfl (by kernel_rfl) (by kernel_rfl) (by kernel_rfl) (fun _ _ _ h => h) (Or.inl ⟨by kernel_rfl, ?_⟩) hS ?_
              · intro w5 hSw
                clear hSw hS
                go_simp
              simp only [Act.put, List.setIfInBounds_toArray, List.set_cons_zero, List.set_cons_succ]
              refine wpAnyH_take (i := 12) (oi := { dst := some 6, op := Go.Op.assign (Go.Operand.tmp 72), type := 66, pos := "message.go:22", after := #[{ on := 9, ground := Go.Ground.data }, { on := 11, ground := Go.Ground.chain }, { on := 0, ground := Go.Ground.phase }, { on := 1, ground := Go.Ground.phase }, { on := 2, ground := Go.Ground.phase }, { on := 3, ground := Go.Ground.phase }, { on := 4, ground := Go.Ground.phase }, { on := 5, ground := Go.Ground.phase }, { on := 6, ground := Go.Ground.phase }, { on := 7, ground := Go.Ground.phase }, { on := 8, ground := Go.Ground.phase }, { on := 9, ground := Go.Ground.phase }, { on := 10, ground := Go.Ground.phase }, { on := 11, ground := Go.Ground.phase }], guard := none }) (v := .nilIface) rfl (by kernel_rfl) (by kernel_rfl) (by kernel_rfl) (fun _ _ _ h => h) (Or.inl ⟨by kernel_rfl, ?_⟩) hS ?_
              · intro w5 hSw
                clear hSw hS
                go_simp
              simp only [Act.put, List.setIfInBounds_toArray, List.set_cons_zero, List.set_cons_succ]
              clear hS
              refine wpAnyH_done (by kernel_rfl) ?_ _
              have hfl := fcu_len hf
              rw [List.length_drop, ← HN.out] at hfl
              have hnb : nb ≤ n - k := hfl.1
              clear hfl
              have HE := Hid.of (HRes.out (.ok ((⟨m, t, mi, fs⟩, bo), k + nb)) (by rw [hf]))
              clear hf
              have HRB := Hid.of (HRA.out.up HSB.out)
              have r2 : wB.cell? ⟨w4.heap.size, 2, none⟩ = some (.int .i64 mi) := HRB.out.cell (i := 2) rfl
              have r3 : wB.cell? ⟨w4.heap.size, 3, none⟩ = some (.slice af nf cf) := HRB.out.cell (i := 3) rfl
              have HUB := Hid.of (HUA.out.trans HSB.out)
              have HFB := Hid.of (show FdL wB af fs cf by have h := HFA2.out.up HSB.out; exact h)
              have HCs := Hid.of (closes_walk af fs cf mi wB HFB.out hfl2 HSm.out (HW.out.up HUB.out).kd (HW.out.up HUB.out).gm)
              rw [HNf.out] at HCs
              obtain ⟨clv, hclv⟩ : ∃ clv, cls (mi == 0) fs = clv := ⟨_, rfl⟩
              have HCv := Hid.of hclv
              rw [hclv] at HCs
              clear hclv
              go_wp2_with fail
              refine HCs.out.mono ?_
              rintro e wC ⟨rfl, uC⟩
              have HUC := Hid.of (HUB.out.trans uC)
              have HRC := Hid.of (HRB.out.up uC)
              have HAC := Hid.of ((HAA.out.up HSB.out).up uC)
              have HHC := Hid.of ((HHA.out.up HSB.out).up uC)
              have HFC := Hid.of (ow_up (ow_up HFO.out HSB.out) uC)
              have HOC := Hid.of (ow_up HOB.out uC)
              clear uC r2 r3
              dsimp only
              have k4 : wC.cell? ⟨w4.heap.size, 4, none⟩ = some (.slice none 0 0) := HRC.out.cell (i := 4) rfl
              have f4 := HRC.out.thaw 4
              have k5 : wC.cell? ⟨w4.heap.size, 5, none⟩ = some (.bool false) := HRC.out.cell (i := 5) rfl
              have f5 := HRC.out.thaw 5
              obtain ⟨aB, nB, cB, rfl⟩ := Sb.shape (Ow.sb HOB.out)
              go_wp2
              have HG4 := Hid.of (grown_at wC w4.heap.size 4 (.slice aB nB cB))
              have HG5 := Hid.of (grown_at (wC.setCell ⟨w4.heap.size, 4, none⟩ (.slice aB nB cB)) w4.heap.size 5 (.bool clv))
              have HRE := Hid.of ((HRC.out.set 4 (.slice aB nB cB)).set 5 (.bool clv))
              have HUE := Hid.of ((HUC.out.by HG4.out (fun g hg => by have := Option.some.inj hg; have := HUw4.out.size; omega)).by HG5.out (fun g hg => by have := Option.some.inj hg; have := HUw4.out.size; omega))
              have hrne : w4.heap.size ≠ w.heap.size := by have := HUw4s.out; omega
              have HAE := Hid.of ((HAC.out.by HG4.out (fun e => hrne (Option.some.inj e))).by HG5.out (fun e => hrne (Option.some.inj e)))
              have hhne := HHC.out.ne HRC.out (by decide)
              have HHE := Hid.of ((HHC.out.by HG4.out (fun e => hhne (Option.some.inj e).symm)).by HG5.out (fun e => hhne (Option.some.inj e).symm))
              have HFE := Hid.of ((HFC.out.kept HG4.out (.inr (own_ne HFC.out HRC.out (by decide)))).kept HG5.out (.inr (own_ne HFC.out HRC.out (by decide))))
              have HOE := Hid.of ((HOC.out.kept HG4.out (.inr (own_ne HOC.out HRC.out (by decide)))).kept HG5.out (.inr (own_ne HOC.out HRC.out (by decide))))
              clear HG4 HG5 k4 f4 k5 f5 hrne hhne
              generalize (wC.setCell ⟨w4.heap.size, 4, none⟩ (.slice aB nB cB)).setCell ⟨w4.heap.size, 5, none⟩ (.bool clv) = wE at *
              dsimp only [List.set_cons_zero, List.set_cons_succ] at HRE
              have hone : ([vs m, vs t, .int .i64 mi, .slice af nf cf, Value.slice aB nB cB, .bool clv] : List Value).toArray.all (·.oneCell') = true := by kernel_rfl
              refine wp_region_held_drew (S := fun wS => (∃ cs, cs.length = 6 ∧ At wS w.heap.size 27 cs) ∧ At wS w4.heap.size 27 [vs m, vs t, .int .i64 mi, .slice af nf cf, (.slice aB nB cB), .bool clv] ∧ At wS w2.heap.size 92 [vs st, vs fl, .int .i64 (k : Int)] ∧ wS.ownsRow w.heap.size 73 2 (.slice af nf cf) nf (fdc fs) ∧ Ow wS w.heap.size (.slice aB nB cB) bo ∧ Up w wS) (by kernel_rfl) ⟨⟨z6, rfl, HAE.out.up (Up.refl _).drew⟩, HRE.out.up (Up.refl _).drew, HHE.out.up (Up.refl _).drew, ow_up HFE.out (Up.refl _).drew, ow_up HOE.out (Up.refl _).drew, HUE.out.drew⟩ (fun hS => ?_)
              refine wpAnyH_take (i := 0) (oi := { dst := some 85, op := Go.Op.load 27 (Go.Operand.tmp 7), type := 27, pos := "message.go:27", after := #[], guard := none }) (v := .agg [vs m, vs t, .int .i64 mi, .slice af nf cf, (.slice aB nB cB), .bool clv].toArray) rfl (by kernel_rfl) (by kernel_rfl) (by kernel_rfl) (fun _ _ _ h => h) (Or.inl ⟨by kernel_rfl, ?_⟩) hS ?_
              · intro w5 hSw
                have hld := hSw.2.1.range
                clear hS
                clear hSw
                exact exec_load6 rfl rfl hld
              simp only [Act.put, List.setIfInBounds_toArray, List.set_cons_zero, List.set_cons_succ]
              refine wpAnyH_take (i := 1) (oi := { dst := some 86, op := Go.Op.fieldAddr 92 (Go.Operand.tmp 5) 2, type := 0, pos := "message.go:27", after := #[{ on := 5, ground := Go.Ground.gcOnly Go.Departure.lateStores }], guard := none }) (v := .pointer (some ⟨w2.heap.size, 2, none⟩)) rfl (by kernel_rfl) (by kernel_rfl) (by kernel_rfl) (fun _ _ _ h => h) (Or.inl ⟨by kernel_rfl, ?_⟩) hS ?_
              · intro w5 hSw
                clear hSw hS
                go_simp
              simp only [Act.put, List.setIfInBounds_toArray, List.set_cons_zero, List.set_cons_succ]
              refine wpAnyH_take (i := 2) (oi := { dst := some 87, op := Go.Op.load 3 (Go.Operand.tmp 86), type := 3, pos := "message.go:27", after := #[{ on := 1, ground := Go.Ground.data }, { on := 5, ground := Go.Ground.gcOnly Go.Departure.lateStores }], guard := none }) (v := .int .i64 (k : Int)) rfl (by kernel_rfl) (by kernel_rfl) (by kernel_rfl) (fun _ _ _ h => h) (Or.inl ⟨by kernel_rfl, ?_⟩) hS ?_
              · intro w5 hSw
                have hh2 : w5.cell? ⟨w2.heap.size, 2, none⟩ = some (.int .i64 (k : Int)) := hSw.2.2.1.cell (i := 2) rfl
                clear hSw hS
                go_simp
              simp only [Act.put, List.setIfInBounds_toArray, List.set_cons_zero, List.set_cons_succ]
              refine wpAnyH_take (i := 3) (oi := { dst := some 88, op := Go.Op.move (Go.Operand.tmp 10), type := 3, pos := "message.go:27", after := #[{ on := 5, ground := Go.Ground.gcOnly Go.Departure.lateStores }], guard := none }) (v := .int .i64 (nb : Int)) rfl (by kernel_rfl) (by kernel_rfl) (by kernel_rfl) (fun _ _ _ h => h) (Or.inl ⟨by kernel_rfl, ?_⟩) hS ?_
              · intro w5 hSw
                clear hSw hS
                go_simp
              simp only [Act.put, List.setIfInBounds_toArray, List.set_cons_zero, List.set_cons_succ]
              refine wpAnyH_take (i := 4) (oi := { dst := some 89, op := Go.Op.binOp Go.BinOp.add 3 (Go.Operand.tmp 87) (Go.Operand.tmp 88) 3, type := 3, pos := "message.go:27", after := #[{ on := 2, ground := Go.Ground.data }, { on := 3, ground := Go.Ground.data }, { on := 5, ground := Go.Ground.gcOnly Go.Departure.lateStores }], guard := none }) (v := .int .i64 ((k + nb : Nat) : Int)) rfl (by kernel_rfl) (by kernel_rfl) (by kernel_rfl) (fun _ _ _ h => h) (Or.inl ⟨by kernel_rfl, ?_⟩) hS ?_
              · intro w5 hSw
                clear hSw hS
                go_simp
                exact wrapk _ (by omega) (by omega)
              simp only [Act.put, List.setIfInBounds_toArray, List.set_cons_zero, List.set_cons_succ]
              refine wpAnyH_ready (rs := [5]) (by kernel_rfl) (by simp) ?_
              refine AllReadyH.cons (o := { dst := none, op := Go.Op.store 27 (Go.Operand.tmp 2) (Go.Operand.tmp 85), type := 0, pos := "message.go:27", after := #[{ on := 0, ground := Go.Ground.data }, { on := 0, ground := Go.Ground.phase }, { on := 1, ground := Go.Ground.textOnly Go.Departure.lateStores }, { on := 2, ground := Go.Ground.textOnly Go.Departure.lateStores }, { on := 3, ground := Go.Ground.textOnly Go.Departure.lateStores }, { on := 4, ground := Go.Ground.textOnly Go.Departure.lateStores }], guard := none }) rfl (fun K hK => oper_of_list ?_) AllReadyH.nil
              obtain ⟨⟨cs, hcl, hcs2⟩, hS1, hS2, hS3, hS4, hS5⟩ := hS
              refine wpList_store_at rfl 27 _ _ rfl (w.heap.size) hcs2 [vs m, vs t, .int .i64 mi, .slice af nf cf, (.slice aB nB cB), .bool clv] rfl rfl hcl.symm (by kernel_rfl) hone ?_
              intro w8 hA8 hg8
              have HA8 := Hid.of hA8
              have HU8 := Hid.of (hS5.by hg8 (fun g hg => by have := Option.some.inj hg; omega))
              have HF8 := Hid.of (hS3.kept hg8 (.inr (own_ne hS3 hcs2 (by decide))))
              have HO8 := Hid.of (hS4.kept hg8 (.inr (own_ne hS4 hcs2 (by decide))))
              have HR8 := Hid.of (hS1.by hg8 (by have := hS1.ne hcs2; intro e; have := Option.some.inj e; omega))
              have HH8 := Hid.of (hS2.by hg8 (by have := hS2.ne hcs2 (by decide); intro e; have := Option.some.inj e; omega))
              clear hA8 hg8 hcs2 hS2 hS1 hS3 hS4 hS5
              refine hK.out _ _ ⟨⟨_, rfl, HA8.out⟩, HR8.out, HH8.out, HF8.out, HO8.out, HU8.out⟩ (fun hS => ?_)
              clear hK K
              refine wpAnyH_take (i := 6) (oi := { dst := some 3, op := Go.Op.assign (Go.Operand.tmp 89), type := 3, pos := "message.go:27", after := #[{ on := 4, ground := Go.Ground.data }, { on := 5, ground := Go.Ground.chain }, { on := 0, ground := Go.Ground.phase }, { on := 1, ground := Go.Ground.phase }, { on := 2, ground := Go.Ground.phase }, { on := 3, ground := Go.Ground.phase }, { on := 4, ground := Go.Ground.phase }, { on := 5, ground := Go.Ground.phase }], guard := none }) (v := .int .i64 ((k + nb : Nat) : Int)) rfl (by kernel_rfl) (by kernel_rfl) (by kernel_rfl) (fun _ _ _ h => h) (Or.inl ⟨by kernel_rfl, ?_⟩) hS ?_
              · intro w5 hSw
                clear hSw hS
                go_simp
              simp only [Act.put, List.setIfInBounds_toArray, List.set_cons_zero, List.set_cons_succ]
              refine wpAnyH_take (i := 7) (oi := { dst := some 4, op := Go.Op.assign (Go.Operand.const Go.Value.nilIface), type := 66, pos := "message.go:27", after := #[{ on := 6, ground := Go.Ground.chain }, { on := 0, ground := Go.Ground.phase }, { on := 1, ground := Go.Ground.phase }, { on := 2, ground := Go.Ground.phase }, { on := 3, ground := Go.Ground.phase }, { on := 4, ground := Go.Ground.phase }, { on := 5, ground := Go.Ground.phase }, { on := 6, ground := Go.Ground.phase }], guard := none }) (v := .nilIface) rfl (by kernel_rfl) (by kernel_rfl) (by kernel_rfl) (fun _ _ _ h => h) (Or.inl ⟨by kernel_rfl, ?_⟩) hS ?_
              · intro w5 hSw
                clear hSw hS
                go_simp
              simp only [Act.put, List.setIfInBounds_toArray, List.set_cons_zero, List.set_cons_succ]
              clear hS
              refine wpAnyH_done (by kernel_rfl) ?_ _
              repeat go_step
              refine bodyPost_ret (result_cell_tmp2 Tryz.results27 _ _ (w.heap.size) [vs m, vs t, .int .i64 mi, .slice af nf cf, (.slice aB nB cB), .bool clv] _ _ rfl rfl rfl HA8.out.range Tryz.underlying27 rfl (by kernel_rfl)) rfl ?_
              rw [HE.out]
              exact ⟨⟨af, cf, .slice aB nB cB, congrArg (fun x => Ending.returned (.tuple #[x, .int .i64 ((k + nb : Nat) : Int), .nilIface])) (rqV_eq HNf.out HCv.out).symm, Hid.of ⟨by unfold FdO; rw [HNf.out]; exact HF8.out, HO8.out⟩⟩, HU8.out⟩
end Go.Proofs.YtbgjnghjddcooaaGreatDoor
