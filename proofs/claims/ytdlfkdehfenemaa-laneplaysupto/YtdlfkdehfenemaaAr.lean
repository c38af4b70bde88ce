import Derived.Test.YtdlfkdehfenemaaAq
namespace Go.Proofs.Ytdlfkdehfenemaa
open Go.RowKit Go.Conc TextNum
/-! ### the answer without its memory -/
def hasA (A : AN) (i : Nat) : Bool := match A.ls[i]? with
  | some x => !x.1.isEmpty
  | none => false
def endA (A : AN) (i : Nat) : Bool := match A.ls[i]? with
  | some x => x.2 && !(A.pd.any fun p => p.2.1 == i)
  | none => true
def firstA (A : AN) (i : Nat) : List UInt8 := match A.ls[i]? with
  | some x => x.1.headD []
  | none => []
def popA (A : AN) (i : Nat) : AN := { A with ls := A.ls.modify i fun x => (x.1.tail, x.2) }
def awA : Nat → AN → List Nat → (Nat × List UInt8 × Int) × AN
  | 0, A, is => match is.find? (hasA A) with
    | some i => ((i, firstA A i, 0), popA A i)
    | none => if is.all (endA A) then ((0, [], 191), A) else ((0, [], 190), A)
  | n + 1, A, is => match is.find? (hasA A) with
    | some i => ((i, firstA A i, 0), popA A i)
    | none => if is.all (endA A) then ((0, [], 191), A) else awA n (tickA A) is
theorem hasM_abs (S : NS) : hasM S = hasA (abs S) := by
  funext i
  unfold hasM hasA abs
  dsimp only
  rw [List.getElem?_map]
  cases S.ls[i]? with
  | none => rfl
  | some l => cases h : l.ms <;> simp [absL, h]
theorem endI_abs {S : NS} (k : SOk S) : endI S = endA (abs S) := by
  funext i
  unfold endI endA
  rw [show (abs S).ls[i]? = (S.ls.map absL)[i]? from rfl, List.getElem?_map]
  cases h : S.ls[i]? with
  | none => rfl
  | some l =>
    have e := k.la i l h
    show (l.sh && l.la == 0) = (l.sh && !(S.pd.map absP).any fun p => p.2.1 == i)
    congr 1
    rw [e, List.any_map]
    have : ((fun p => p.2.1 == i) ∘ absP) = fun p : PC => p.i == i := by funext p; rfl
    rw [this, Bool.eq_iff_iff]
    simp only [beq_iff_eq, Bool.not_eq_true', List.countP_eq_zero, List.any_eq_false]
/-- the first that waits is taken -/
theorem NOk.pop {w : World} {S : NS} (h : NOk w S) {i : Nat} {l : LC} {m : Msg} {r : List Msg} (hl : S.ls[i]? = some l) (hm : l.ms = m :: r) :
    NOk (w.setChan l.c 64 (r.map (·.v)).toArray (l.sh && l.la == 0) l.s (l.r + 1) false) (wLs S i { l with ms := r, r := l.r + 1 }) := by
  have hx := h.chs l (get_mem hl)
  have hb := grown_chan w l.c 64 (r.map (·.v)).toArray (l.sh && l.la == 0) l.s (l.r + 1) false
  have hf : Fr (fun k => k = S.pb ∨ k = l.c) w (w.setChan l.c 64 (r.map (·.v)).toArray (l.sh && l.la == 0) l.s (l.r + 1) false) := (Fr.refl _ w).by hb (fun g hg => .inl (.inr (Option.some.inj hg).symm))
  have tl : otag w l.c = some 1000 := by simp only [otag, hx, chn]
  refine h.lane hl rfl ?_ ?_ hf (fun x hx2 => ?_)
  · rw [lcs_same (l' := { l with ms := r, r := l.r + 1 }) hl rfl]
    exact h.row.by hb (fun e => at_notchan h.row hx (Option.some.inj e).symm)
  · rw [heap_setChan _ _ _ _ _ _ _ _ (lt_of_at hx)]; rfl
  · have hm1 := h.ms x (List.mem_append.2 (.inl (List.mem_flatMap.2 ⟨l, get_mem hl, by rw [hm]; exact List.mem_cons_of_mem _ hx2⟩)))
    exact World.ownsRow.kept hm1 hb (.inr (fun e => by
      have := row_tag hm1 e
      rw [tl] at this; cases this))
theorem abs_pop {S : NS} {i : Nat} {l : LC} {m : Msg} {r : List Msg} {q : Nat} (hl : S.ls[i]? = some l) (hm : l.ms = m :: r) : abs (wLs S i { l with ms := r, r := q }) = popA (abs S) i := by
  unfold abs popA
  dsimp only
  rw [map_set_modify absL (fun x => (x.1.tail, x.2)) _ _ _ _ hl (by simp [absL, hm])]
/-- two channels of one's own -/
structure CH (w w' : World) (tk en : Nat) : Prop where
  up : Up w w'
  t1 : w.heap.size ≤ tk
  t2 : w.heap.size ≤ en
  ne : tk ≠ en
  ct : w'.heap[tk]? = some (.chan 1 #[] false 0 0 false)
  ce : w'.heap[en]? = some (.chan 1 #[] false 0 0 false)
theorem mkInt (w : World) : (Instr.makeChan 118 (.int .i64 1)).run Try.prog w = .ok (.chan (some w.heap.size)) (w.alloc (.chan 1 #[] false 0 0 false)) := by
  have h : (Try.prog.info? 3).map (·.bytes) = some 8 := by kernel_rfl
  obtain ⟨i, hi, hb⟩ := Option.map_eq_some_iff.1 h
  simpa using run_makeChan (P := Try.prog) (w := w) Try.underlying118 hi .i64 1 (by omega) (by rw [hb]; omega)
theorem ch_ab (w : World) : CH w ((w.alloc (.chan 1 #[] false 0 0 false)).alloc (.chan 1 #[] false 0 0 false)).drew w.heap.size (w.heap.size + 1) := by
  refine ⟨(((Up.refl w).alloc _).alloc _).drew, Nat.le_refl _, by omega, by omega, ?_, ?_⟩
  · show ((w.heap.push _).push _)[w.heap.size]? = _
    rw [Array.getElem?_push_lt (by simp), ← Array.getElem?_eq_getElem]
    simp
  · have := heap_alloc_new (w.alloc (.chan 1 #[] false 0 0 false)) (.chan 1 #[] false 0 0 false)
    rw [alloc_size] at this
    exact this
theorem ch_ba (w : World) : CH w ((w.alloc (.chan 1 #[] false 0 0 false)).alloc (.chan 1 #[] false 0 0 false)).drew (w.heap.size + 1) w.heap.size :=
  ⟨(ch_ab w).up, (ch_ab w).t2, (ch_ab w).t1, fun e => (ch_ab w).ne e.symm, (ch_ab w).ce, (ch_ab w).ct⟩
/-- what the loop keeps: so many ticks have gone by, and nothing came -/
structure AwI (w wr : World) (S : NS) (v : Value) (is : List Nat) (n tk en g : Nat) (Sj : NS) : Prop where
  st : Stp w.heap.size 0 w wr S Sj (itA g (abs S))
  sh : Sj.ls.map (·.sh) = S.ls.map (·.sh)
  ct : ∃ s r, wr.heap[tk]? = some (.chan 1 #[] false s r false)
  ce : ∃ s r, wr.heap[en]? = some (.chan 1 #[] false s r false)
  ne : tk ≠ en
  bt : w.heap.size ≤ tk ∧ w.heap.size ≤ en
  nt : ¬ own Sj tk ∧ ¬ own Sj en
  rt : ¬ rds Sj tk ∧ ¬ rds Sj en
  ln : Lns wr Sj v is
  aw : awA (n - g) (abs Sj) is = awA n (abs S) is
  le : g ≤ n
theorem neq_chan (w : World) (c : Option Nat) : (binOp .neq 119 (.chan c) (.chan none)).run Try.prog w = .ok (.bool c.isSome) w := by
  have h : ∀ d, (Op.equalIn (d + 1) 119 (.chan c) (.chan none)).run Try.prog w = .ok (c.isNone) w := fun d => by
    cases c <;> simp [Op.equalIn, run_underlying Try.underlying119]
  simp only [binOp]
  simp [Op.equal, Op.maxDepth, h 9999]
  try cases c <;> rfl
theorem awA_some {n : Nat} {A : AN} {is : List Nat} {i : Nat} (h : is.find? (hasA A) = some i) : awA n A is = ((i, firstA A i, 0), popA A i) := by
  cases n <;> simp only [awA, h]
theorem awA_end {n : Nat} {A : AN} {is : List Nat} (h : is.find? (hasA A) = none) (he : is.all (endA A) = true) : awA n A is = ((0, [], 191), A) := by
  cases n <;> simp only [awA, h, he, if_true]
theorem awA_out {A : AN} {is : List Nat} (h : is.find? (hasA A) = none) (he : ¬ is.all (endA A) = true) : awA 0 A is = ((0, [], 190), A) := by
  simp only [awA, h, he]
  rfl
theorem awA_tick {n : Nat} {A : AN} {is : List Nat} (h : is.find? (hasA A) = none) (he : ¬ is.all (endA A) = true) : awA (n + 1) A is = awA n (tickA A) is := by
  simp only [awA, h, he]
  rfl
theorem end_get {w : World} {S : NS} {v : Value} {is : List Nat} (h : Lns w S v is) (hf : is.find? (hasM S) = none) (ha : is.all (endI S) = true) : ∃ l, S.ls[is.headD 0]? = some l ∧ endL l = true ∧ l.ms = [] := by
  obtain ⟨i0, r0, his⟩ : ∃ i0 r0, is = i0 :: r0 := by
    cases his : is with
    | nil => exact absurd his h.ne
    | cons a b => exact ⟨a, b, rfl⟩
  subst his
  have hi := h.lt i0 (by simp)
  refine ⟨S.ls[i0], List.getElem?_eq_getElem hi, ?_, ?_⟩
  · have := List.all_eq_true.1 ha i0 (by simp)
    unfold endI at this
    rw [List.getElem?_eq_getElem hi] at this
    exact this
  · have := List.find?_eq_none.1 hf i0 (by simp)
    unfold hasM at this
    rw [List.getElem?_eq_getElem hi] at this
    simpa using this
theorem pop_cm {S : NS} {i : Nat} {l : LC} {m : Msg} {r : List Msg} {q : Nat} (hl : S.ls[i]? = some l) (hm : l.ms = m :: r) (x : Nat) : cm (wLs S i { l with ms := r, r := q }) x + bit m x = cm S x := by
  have h1 := cm_set (l' := { l with ms := r, r := q }) hl x
  rw [hm, cmL_cons] at h1
  have h2 : cmL ({ l with ms := r, r := q } : LC).ms x = cmL r x := rfl
  omega
theorem pop_free {S : NS} {i : Nat} {l : LC} {m : Msg} {r : List Msg} {q : Nat} (h : MD S) (hl : S.ls[i]? = some l) (hm : l.ms = m :: r) (x : Nat) (hx : m.v.ownBlock = some x) : cm (wLs S i { l with ms := r, r := q }) x = 0 := by
  have h1 := pop_cm (q := q) hl hm x
  have h2 := h x
  unfold bit at h1
  rw [hx] at h1
  simp at h1
  omega
/-- what await answers: of the net, or nobody's -/
def Free (w : World) (S S' : NS) (mv : Value) : Prop := ∀ x, mv.ownBlock = some x → (rds S x ∨ w.heap.size ≤ x) ∧ (MD S → cm S' x = 0)
theorem Free.nil (w : World) (S S' : NS) : Free w S S' nilS := fun x h => by cases h
theorem pop_stp {N : Nat} {w : World} {S : NS} (h : NOk w S) (k : SOk S) {i : Nat} {l : LC} {m : Msg} {r : List Msg} (hl : S.ls[i]? = some l) (hm : l.ms = m :: r) :
    Stp N 0 w (w.setChan l.c 64 (r.map (·.v)).toArray (l.sh && l.la == 0) l.s (l.r + 1) false) S (wLs S i { l with ms := r, r := l.r + 1 }) (popA (abs S) i) := by
  refine ⟨h.pop hl hm, k.set hl rfl, abs_pop hl hm, fr_own hl ((Fr.refl _ w).by (grown_chan ..) (fun g hg => .inl (.inr (Option.some.inj hg).symm))), fun x hx => .inl ((own_set (l' := { l with ms := r, r := l.r + 1 }) hl rfl).1 hx), fun x hx => .inl ?_, rfl, Nat.le_refl _, fun h x => Nat.le_trans (by have := pop_cm (q := l.r + 1) hl hm x; omega) (h x)⟩
  rcases hx with hx | ⟨y, hy, hx⟩
  · exact .inl hx
  · refine .inr ⟨y, ?_, hx⟩
    rcases msgs_set hy with h1 | h1
    · exact List.mem_append.2 (.inl (List.mem_flatMap.2 ⟨l, get_mem hl, by rw [hm]; exact List.mem_cons_of_mem _ h1⟩))
    · exact h1
theorem wk_cond_t {P : Program} {Q : Exit → Act → World → Prop} {a : Act} {w : World} {c : Operand} {x y : Code} (hc : a.eval c = .bool true) (h : Wk P x Q a w) : Wk P (Code.cond c x y) Q a w := wk_cond hc h
theorem wk_cond_f {P : Program} {Q : Exit → Act → World → Prop} {a : Act} {w : World} {c : Operand} {x y : Code} (hc : a.eval c = .bool false) (h : Wk P y Q a w) : Wk P (Code.cond c x y) Q a w := wk_cond hc h
theorem Stp.aside {N k : Nat} {w w1 w2 : World} {S S1 : NS} {A : AN} {x : Nat} (h : Stp N k w w1 S S1 A) (hb : w1.grownBy w2 (some x)) (hx : w.heap.size ≤ x) (ho : ¬ own S1 x) (hr : ¬ rds S1 x) : Stp N k w w2 S S1 A :=
  ⟨h.ok.fr ((Fr.refl (fun q => q = x) w1).by hb (fun g hg => .inl (Option.some.inj hg).symm)) (fun g hg e => ho (e ▸ hg)) (fun g hg e => hr (e ▸ hg)), h.so, h.ab, h.fr.by hb (fun g hg => .inr (by have := Option.some.inj hg; omega)), h.no, h.nr, h.nb, h.mn, h.ap⟩
theorem Lns.st {w w' : World} {S S' : NS} {v : Value} {is : List Nat} (h : Lns w S v is) (hv : ∀ g, v.ownBlock = some g → ¬ own S g ∧ g < w.heap.size) (hf : Fr (own S) w w') (hl : S'.ls.length = S.ls.length) : Lns w' S' v is := by
  obtain ⟨b, o, c, rfl, h1, h2⟩ := h.sh
  refine ⟨⟨b, o, c, rfl, h1, fun j i hj => ?_⟩, h.ne, fun i hi => by rw [hl]; exact h.lt i hi, h.le⟩
  have hb := hv b rfl
  rw [World.cell?_of_block (a := ⟨b, o + j, none⟩) (hf.block b hb.2 hb.1)]
  exact h2 j i hj
theorem shs_len {a b : List LC} (h : a.map (·.sh) = b.map (·.sh)) : a.length = b.length := by
  have := congrArg List.length h
  simpa using this
theorem hasM_get {S : NS} {i : Nat} (h : hasM S i = true) : ∃ l, S.ls[i]? = some l ∧ ∃ m r, l.ms = m :: r := by
  unfold hasM at h
  cases hl : S.ls[i]? with
  | none => rw [hl] at h; cases h
  | some l =>
    rw [hl] at h
    cases hm : l.ms with
    | nil => simp [hm] at h
    | cons m r => exact ⟨l, rfl, m, r, hm⟩
theorem find_mem {p : Nat → Bool} {l : List Nat} {i : Nat} (h : l.find? p = some i) : p i = true := List.find?_some h
abbrev Two (w : World) (A : Nat → Nat → Act) : Exit → Act → World → Prop
  | .normal, a, w' => ∃ tk en, a = A tk en ∧ CH w w' tk en
  | _, _, _ => False
theorem wp_two {P : Program} {c : Code} {Q : Exit → Act → World → Prop} {a : Act} {w w0 : World} (A : Nat → Nat → Act) (h : c.wp P (Two w0 A) a w) (k : ∀ tk en w', CH w0 w' tk en → Q Exit.normal (A tk en) w') : c.wp P Q a w :=
  Code.wp_mono (fun e a' w' h => by
    cases e with
    | normal => obtain ⟨tk, en, rfl, h2⟩ := h; exact k tk en w' h2
    | _ => exact h.elim) h
set_option maxRecDepth 100000 in
set_option maxHeartbeats 1000000 in
theorem await_walk (w : World) (S : NS) (v : Value) (is : List Nat) (n : Nat) (h : NOk w S) (k : SOk S) (hL : Lns w S v is) (hv : ∀ g, v.ownBlock = some g → ¬ own S g ∧ g < w.heap.size) (hn : n ≤ 65536) (hnow : S.now ≤ 2305843009213693952) (hbd : S.mn ≤ 1099511627776) :
    Calls Try.prog 38 #[.pointer (some ⟨S.nb, 0, none⟩), v, .int .i64 (n : Int)] w fun e w' => ∃ mv S', e = .returned (.tuple #[.int .i64 ((awA n (abs S) is).1.1 : Int), mv, .int .i64 (awA n (abs S) is).1.2.2]) ∧ Ow w' 0 mv (awA n (abs S) is).1.2.1 ∧ Stp w.heap.size 0 w w' S S' (awA n (abs S) is).2 ∧ S'.ls.map (·.sh) = S.ls.map (·.sh) ∧ Free w S S' mv := by
  have HN := Hid.of h
  have HK := Hid.of k
  have HL := Hid.of hL
  have HV := Hid.of hv
  have hmc := mkInt
  clear h k hL hv
  refine calls_of_wk Try.func38 rfl ?_
  simp only [Try.ntmps38, List.size_toArray, List.length_cons, List.length_nil, Nat.reduceAdd, Nat.reduceSub, Array.replicate_succ,
     Array.replicate_zero, List.push_toArray, List.append_toArray, List.nil_append, List.cons_append]
  refine wk_seq (wk_of ?_)
  go_wp2
  refine wk_seq (wk_of ?_)
  have mixed : Try.prog.follows .mixedOrders = true := by kernel_rfl
  apply wp_two (w0 := w) (fun tk en => ⟨#[.pointer (some ⟨S.nb, 0, none⟩), v, .int .i64 (n : Int), undef, undef, undef, .int .i64 0, .slice none 0 0, .int .i64 0, .chan (some tk), .chan (some en), undef, undef, undef, undef, undef, .chan (some tk), .chan (some en), undef, undef, undef, undef, undef, undef, undef, undef, undef, undef, undef, undef, undef, undef, undef, undef, undef, undef, undef, undef, undef, undef, undef, undef, undef, undef, undef, undef, undef, undef, undef, undef, undef, undef, undef], []⟩)
  case h =>
    go_region
    · exact ⟨_, _, rfl, ch_ab w⟩
    · exact ⟨_, _, rfl, ch_ba w⟩
  intro tk en w1 hCH
  clear mixed hmc
  refine wk_seq (wk_of ?_)
  go_wp2
  refine wk_block (wk_loop (fun a wr => ∃ (g : Nat) (u12 u13 u14 u15 u16 u17 u18 u19 u20 u21 u22 u23 u24 u25 u26 u27 u28 u29 u30 u31 u32 u33 u34 u35 u36 u37 u38 u39 u40 u41 u42 u43 u44 u45 u46 u47 u48 u49 u50 u51 u52 : Value), a = ⟨#[.pointer (some ⟨S.nb, 0, none⟩), v, .int .i64 (n : Int), undef, undef, undef, .int .i64 0, .slice none 0 0, .int .i64 0, .chan (some tk), .chan (some en), .int .i64 (g : Int), u12, u13, u14, u15, u16, u17, u18, u19, u20, u21, u22, u23, u24, u25, u26, u27, u28, u29, u30, u31, u32, u33, u34, u35, u36, u37, u38, u39, u40, u41, u42, u43, u44, u45, u46, u47, u48, u49, u50, u51, u52], []⟩ ∧ Hid (∃ Sj, AwI w wr S v is n tk en g Sj)) (fun a _ => n - (intOf (a.tmps.getD 11 undef)).toNat) ⟨0, _, _, _, _, _, _, _, _, _, _, _, _, _, _, _, _, _, _, _, _, _, _, _, _, _, _, _, _, _, _, _, _, _, _, _, _, _, _, _, _, _, rfl, ?_⟩ ?_)
  · exact Hid.of ⟨S, Stp.up HN.out HK.out hCH.up, rfl, ⟨_, _, hCH.ct⟩, ⟨_, _, hCH.ce⟩, hCH.ne, ⟨hCH.t1, hCH.t2⟩, ⟨fun e => by have := HN.out.lt e; have := hCH.t1; omega, fun e => by have := HN.out.lt e; have := hCH.t2; omega⟩, ⟨fun e => by have := HN.out.ltr e; have := hCH.t1; omega, fun e => by have := HN.out.ltr e; have := hCH.t2; omega⟩, HL.out.st HV.out (fr_of_up _ hCH.up) rfl, rfl, Nat.zero_le _⟩
  · rintro a wr ⟨g, u12, u13, u14, u15, u16, u17, u18, u19, u20, u21, u22, u23, u24, u25, u26, u27, u28, u29, u30, u31, u32, u33, u34, u35, u36, u37, u38, u39, u40, u41, u42, u43, u44, u45, u46, u47, u48, u49, u50, u51, u52, rfl, hI0⟩
    obtain ⟨Sj, hI⟩ := hI0.out
    clear hI0
    cases hf : is.find? (hasM Sj) with
    | some i =>
      obtain ⟨l, hl, m, r, hm⟩ := hasM_get (find_mem hf)
      have hres : rdyV Sj is = .tuple #[.int .i64 (i : Int), .chan (some l.c)] := by
        unfold rdyV
        rw [hf]
        simp only [chI, hl]
      have HRES := Hid.of hres
      have HRD := Hid.of (ready_walk wr Sj v is hI.st.ok hI.ln)
      rw [hI.st.nb] at HRD
      have HI := Hid.of hI
      have HM := Hid.of hm
      have HLL := Hid.of hl
      have HF := Hid.of hf
      clear hres hI hf hm hl
      refine wk_seq (wk_block (wk_seq (wk_of ?_)))
      go_wp2_with fail
      refine HRD.out.mono ?_
      rintro e w2 ⟨rfl, u2⟩
      rw [HRES.out]
      dsimp only
      go_wp2
      have hN2 := HI.out.st.ok.up u2
      have hx := hN2.chs l (get_mem HLL.out)
      obtain ⟨s1, r1, ct⟩ := HI.out.ct
      obtain ⟨s2, r2, ce⟩ := HI.out.ce
      have ct2 : w2.heap[tk]? = some (.chan 1 #[] false s1 r1 false) := (u2.block tk (lt_of_at ct)).trans ct
      have ce2 : w2.heap[en]? = some (.chan 1 #[] false s2 r2 false) := (u2.block en (lt_of_at ce)).trans ce
      have hnq : ∀ w', (binOp .neq 119 (.chan (some l.c)) (.chan none)).run Try.prog w' = .ok (.bool true) w' := fun w' => neq_chan w' (some l.c)
      refine wk_seq (wk_of ?_)
      go_wp2
      refine wk_seq (wk_of ?_)
      go_wp2
      refine wk_seq (wk_region ?_)
      simp only [List.size_toArray, List.length_cons, List.length_nil, Nat.reduceAdd, List.range, List.range.loop]
      refine wkO_comm (cases := #[rcase l.c nilS, rcase tk (.int .i64 0), rcase en (.int .i64 0)]) (blocking := true) (shape := .select) (w1 := w2) (w' := w2.setChan l.c 64 (r.map (·.v)).toArray (l.sh && l.la == 0) l.s (l.r + 1) false) (v := .tuple #[goInt 0, .bool true, m.v, .int .i64 0, .int .i64 0]) rfl rfl (by simp [go_sem, execOp, rcase, Act.eval]) ?_ ?_
      · intro fr cs' es hst
        have hx' := hx
        unfold chn at hx'
        have := step_lone_sel_recv_buf (k := 0) (c := l.c) (cap := 64) (buf := (l.ms.map (·.v)).toArray) (closed := l.sh && l.la == 0) (s := l.s) (r := l.r) (tm := false) (z := nilS) hst rfl (fun q c' hn hc' => ?_) hx' (by rw [HM.out]; simp)
        · rw [this, HM.out]
          simp [commResult, rcase, List.zipIdx_cons]
          rw [List.take_of_length_le (by simp)]
        · rcases q with _ | _ | _ | q
          · exact absurd rfl hn
          · simp only [List.getElem?_toArray, List.getElem?_cons_succ, List.getElem?_cons_zero, Option.some.injEq] at hc'
            subst hc'
            exact noWay_recv ct2
          · simp only [List.getElem?_toArray, List.getElem?_cons_succ, List.getElem?_cons_zero, Option.some.injEq] at hc'
            subst hc'
            exact noWay_recv ce2
          · simp at hc'
      · refine wkO_val (v := goInt 0) (w' := w2.setChan l.c 64 (r.map (·.v)).toArray (l.sh && l.la == 0) l.s (l.r + 1) false) rfl rfl (by simp [go_sem, execOp, Act.eval, Act.put]) ?_
        refine wkO_val (v := .bool true) (w' := w2.setChan l.c 64 (r.map (·.v)).toArray (l.sh && l.la == 0) l.s (l.r + 1) false) rfl rfl (by simp [go_sem, execOp, Act.eval, Act.put]) ?_
        refine wkO_val (v := .bool false) (w' := w2.setChan l.c 64 (r.map (·.v)).toArray (l.sh && l.la == 0) l.s (l.r + 1) false) rfl rfl (by simp [go_sem, execOp, Act.eval, Act.put]) ?_
        refine wkO_val (v := .bool false) (w' := w2.setChan l.c 64 (r.map (·.v)).toArray (l.sh && l.la == 0) l.s (l.r + 1) false) rfl rfl (by simp [go_sem, execOp, Act.eval, Act.put]) ?_
        refine wkO_nil (wk_of ?_)
        simp only [Act.put, List.setIfInBounds_toArray, List.set_cons_zero, List.set_cons_succ, List.getElem_toArray, List.getElem_cons_zero, List.getElem_cons_succ]
        go_wp2
        go_ret3
        have hP := pop_stp (N := w.heap.size) hN2 HI.out.st.so HLL.out HM.out
        have haw := HI.out.aw
        rw [awA_some (by rw [← hasM_abs]; exact HF.out)] at haw
        rw [← haw]
        refine ⟨m.v, _, rfl, ?_, HI.out.st.trans (hP.base u2), (map_set_same _ _ _ _ { l with ms := r, r := l.r + 1 } HLL.out rfl).trans HI.out.sh, fun x hx => ⟨HI.out.st.nr x (.inr ⟨m, List.mem_append.2 (.inl (List.mem_flatMap.2 ⟨l, get_mem HLL.out, by rw [HM.out]; simp⟩)), hx⟩), fun hmd => pop_free (HI.out.st.ap hmd) HLL.out HM.out x hx⟩⟩
        have hm1 := hN2.ms m (List.mem_append.2 (.inl (List.mem_flatMap.2 ⟨l, get_mem HLL.out, by rw [HM.out]; simp⟩)))
        have e : firstA (abs Sj) i = m.d := by
          unfold firstA
          rw [show (abs Sj).ls[i]? = (Sj.ls.map absL)[i]? from rfl, List.getElem?_map, HLL.out]
          simp [absL, HM.out]
        show Ow _ 0 m.v (firstA (abs Sj) i)
        rw [e]
        exact World.ownsRow.kept hm1 (grown_chan ..) (.inr (fun e => by
          have h1 := row_tag hm1 e
          simp only [otag, hx, chn] at h1
          cases h1))
    | none =>
      by_cases ha : is.all (endI Sj) = true
      · skip
        have hres : rdyV Sj is = .tuple #[.int .i64 ((is.headD 0 : Nat) : Int), .chan (some (chI Sj (is.headD 0)))] := by
          unfold rdyV
          rw [hf]
          simp only [ha, if_true]
        obtain ⟨l, hl, hle, hlm⟩ := end_get hI.ln hf ha
        have hch : chI Sj (is.headD 0) = l.c := by simp only [chI, hl]
        rw [hch] at hres
        have HRES := Hid.of hres
        have HRD := Hid.of (ready_walk wr Sj v is hI.st.ok hI.ln)
        rw [hI.st.nb] at HRD
        have HI := Hid.of hI
        have HLL := Hid.of hl
        have HF := Hid.of hf
        have HA := Hid.of ha
        have HLE := Hid.of hle
        have HLM := Hid.of hlm
        clear hres hI hf hl ha hch hle hlm
        generalize is.headD 0 = i0 at *
        refine wk_seq (wk_block (wk_seq (wk_of ?_)))
        go_wp2_with fail
        refine HRD.out.mono ?_
        rintro e w2 ⟨rfl, u2⟩
        rw [HRES.out]
        dsimp only
        go_wp2
        have hN2 := HI.out.st.ok.up u2
        have hx := hN2.chs l (get_mem HLL.out)
        obtain ⟨s1, r1, ct⟩ := HI.out.ct
        obtain ⟨s2, r2, ce⟩ := HI.out.ce
        have ct2 : w2.heap[tk]? = some (.chan 1 #[] false s1 r1 false) := (u2.block tk (lt_of_at ct)).trans ct
        have ce2 : w2.heap[en]? = some (.chan 1 #[] false s2 r2 false) := (u2.block en (lt_of_at ce)).trans ce
        have hnq : ∀ w', (binOp .neq 119 (.chan (some l.c)) (.chan none)).run Try.prog w' = .ok (.bool true) w' := fun w' => neq_chan w' (some l.c)
        refine wk_seq (wk_of ?_)
        go_wp2
        refine wk_seq (wk_of ?_)
        go_wp2
        refine wk_seq (wk_region ?_)
        simp only [List.size_toArray, List.length_cons, List.length_nil, Nat.reduceAdd, List.range, List.range.loop]
        refine wkO_comm (cases := #[rcase l.c nilS, rcase tk (.int .i64 0), rcase en (.int .i64 0)]) (blocking := true) (shape := .select) (w1 := w2) (w' := w2) (v := .tuple #[goInt 0, .bool false, nilS, .int .i64 0, .int .i64 0]) rfl rfl (by simp [go_sem, execOp, rcase, Act.eval]) ?_ ?_
        · intro fr cs' es hst
          have hx' : w2.heap[l.c]? = some (.chan 64 #[] true l.s l.r false) := by
            rw [hx, chn, HLM.out, show (l.sh && l.la == 0) = true from HLE.out]
            rfl
          have := step_lone_sel_recv_shut (k := 0) (c := l.c) (cap := 64) (s := l.s) (r := l.r) (tm := false) (z := nilS) hst rfl (fun q c' hn hc' => ?_) hx'
          · rw [this]
            simp [commResult, rcase, List.zipIdx_cons]
          · rcases q with _ | _ | _ | q
            · exact absurd rfl hn
            · simp only [List.getElem?_toArray, List.getElem?_cons_succ, List.getElem?_cons_zero, Option.some.injEq] at hc'
              subst hc'
              exact noWay_recv ct2
            · simp only [List.getElem?_toArray, List.getElem?_cons_succ, List.getElem?_cons_zero, Option.some.injEq] at hc'
              subst hc'
              exact noWay_recv ce2
            · simp at hc'
        · refine wkO_val (v := goInt 0) (w' := w2) rfl rfl (by simp [go_sem, execOp, Act.eval, Act.put]) ?_
          refine wkO_val (v := .bool true) (w' := w2) rfl rfl (by simp [go_sem, execOp, Act.eval, Act.put]) ?_
          refine wkO_val (v := .bool false) (w' := w2) rfl rfl (by simp [go_sem, execOp, Act.eval, Act.put]) ?_
          refine wkO_val (v := .bool false) (w' := w2) rfl rfl (by simp [go_sem, execOp, Act.eval, Act.put]) ?_
          refine wkO_nil (wk_of ?_)
          simp only [Act.put, List.setIfInBounds_toArray, List.set_cons_zero, List.set_cons_succ, List.getElem_toArray, List.getElem_cons_zero, List.getElem_cons_succ]
          go_wp2
          go_ret3
          have haw := HI.out.aw
          rw [awA_end (by rw [← hasM_abs]; exact HF.out) (by rw [← endI_abs HI.out.st.so]; exact HA.out)] at haw
          rw [← haw]
          have hU := Stp.up (N := w.heap.size) HI.out.st.ok HI.out.st.so u2
          exact ⟨nilS, Sj, rfl, World.ownsRow_nil _ _ _ _, HI.out.st.trans hU, HI.out.sh, Free.nil _ _ _⟩
      · by_cases hg : g < n
        · have hgz : (g : Int) < (n : Int) := by omega
          have hres : rdyV Sj is = .tuple #[.int .i64 0, .chan none] := by
            unfold rdyV
            rw [hf]
            simp only [ha]
            rfl
          have HRES := Hid.of hres
          have HRD := Hid.of (ready_walk wr Sj v is hI.st.ok hI.ln)
          rw [hI.st.nb] at HRD
          have HI := Hid.of hI
          have HF := Hid.of hf
          have HA := Hid.of ha
          clear hres hI hf ha
          refine wk_seq (wk_block (wk_seq (wk_of ?_)))
          go_wp2_with fail
          refine HRD.out.mono ?_
          rintro e w2 ⟨rfl, u2⟩
          rw [HRES.out]
          dsimp only
          go_wp2
          obtain ⟨s1, r1, ct⟩ := HI.out.ct
          obtain ⟨s2, r2, ce⟩ := HI.out.ce
          have ct2 : w2.heap[tk]? = some (.chan 1 #[] false s1 r1 false) := (u2.block tk (lt_of_at ct)).trans ct
          have ce2 : w2.heap[en]? = some (.chan 1 #[] false s2 r2 false) := (u2.block en (lt_of_at ce)).trans ce
          have hne := HI.out.ne
          have HU2 := Hid.of u2
          clear ct ce u2
          have hnq : ∀ w', (binOp .neq 119 (.chan none) (.chan none)).run Try.prog w' = .ok (.bool false) w' := fun w' => neq_chan w' none
          refine wk_seq (wk_block (wk_seq (wk_of ?_)))
          go_wp2
          refine wk_cond_f rfl (wk_seq (wk_of ?_))
          go_wp2
          refine wk_cond_t rfl (wk_region ?_)
          simp only [List.size_toArray, List.length_cons, List.length_nil, Nat.reduceAdd, List.range, List.range.loop]
          refine wkO_val (v := .chan (some tk)) (w' := w2) rfl rfl (by simp [go_sem, execOp, Act.eval]) ?_
          refine wkO_val (v := .int .i64 (g : Int)) (w' := w2) rfl rfl (by simp [go_sem, execOp, Act.eval, Act.put]) ?_
          have hw3 := heap_setChan w2 tk 1 #[.int .i64 (g : Int)] false (s1 + 1) r1 false (lt_of_at ct2)
          have ho3 : (w2.setChan tk 1 #[.int .i64 (g : Int)] false (s1 + 1) r1 false).heap[en]? = w2.heap[en]? := (grown_chan w2 tk 1 #[.int .i64 (g : Int)] false (s1 + 1) r1 false).block en (lt_of_at ce2) (fun e => hne.symm (Option.some.inj e))
          refine wkO_comm (cases := #[scase tk (.int .i64 (g : Int)) (.tuple #[])]) (blocking := true) (shape := .send) (w1 := w2) (w' := w2.setChan tk 1 #[.int .i64 (g : Int)] false (s1 + 1) r1 false) (v := undef) rfl rfl (by simp [go_sem, execOp, scase, Act.eval, Act.put]) ?_ ?_
          · intro fr cs' es hst
            exact step_lone_send_room (c := tk) (cap := 1) (buf := #[]) (s := s1) (r := r1) (tm := false) hst ct2 (by simp)
          rw [ce2] at ho3
          have hgr3 := grown_chan w2 tk 1 #[.int .i64 (g : Int)] false (s1 + 1) r1 false
          have HST3 := Hid.of (((HI.out.st.trans (Stp.up HI.out.st.ok HI.out.st.so HU2.out)).aside hgr3 HI.out.bt.1 HI.out.nt.1 HI.out.rt.1))
          generalize w2.setChan tk 1 #[.int .i64 (g : Int)] false (s1 + 1) r1 false = W3 at *
          refine wkO_nil ?_
          simp only [Act.put, List.setIfInBounds_toArray, List.set_cons_zero, List.set_cons_succ, List.getElem_toArray, List.getElem_cons_zero, List.getElem_cons_succ]
          refine wk_seq (wk_of ?_)
          go_wp2
          refine wk_seq (wk_region ?_)
          simp only [List.size_toArray, List.length_cons, List.length_nil, Nat.reduceAdd, List.range, List.range.loop]
          refine wkO_comm (cases := #[{ chan := .chan none, send := none, zero := nilS }, rcase tk (.int .i64 0), rcase en (.int .i64 0)]) (blocking := true) (shape := .select) (w1 := W3) (w' := W3.setChan tk 1 #[] false (s1 + 1) (r1 + 1) false) (v := .tuple #[goInt 1, .bool true, nilS, .int .i64 (g : Int), .int .i64 0]) rfl rfl (by simp [go_sem, execOp, rcase, Act.eval]) ?_ ?_
          · intro fr cs' es hst
            have := step_lone_sel_recv_buf (k := 1) (c := tk) (cap := 1) (buf := #[.int .i64 (g : Int)]) (closed := false) (s := s1 + 1) (r := r1) (tm := false) (z := .int .i64 0) hst rfl (fun q c' hn hc' => ?_) hw3 (by simp)
            · rw [this]
              simp [commResult, rcase, List.zipIdx_cons]
            · rcases q with _ | _ | _ | q
              · simp only [List.getElem?_toArray, List.getElem?_cons_zero, Option.some.injEq] at hc'
                subst hc'
                exact noWay_nil none
              · exact absurd rfl hn
              · simp only [List.getElem?_toArray, List.getElem?_cons_succ, List.getElem?_cons_zero, Option.some.injEq] at hc'
                subst hc'
                exact noWay_recv ho3
              · simp at hc'
          · refine wkO_val (v := goInt 1) (w' := W3.setChan tk 1 #[] false (s1 + 1) (r1 + 1) false) rfl rfl (by simp [go_sem, execOp, Act.eval, Act.put]) ?_
            refine wkO_val (v := .bool false) (w' := W3.setChan tk 1 #[] false (s1 + 1) (r1 + 1) false) rfl rfl (by simp [go_sem, execOp, Act.eval, Act.put]) ?_
            refine wkO_val (v := .bool true) (w' := W3.setChan tk 1 #[] false (s1 + 1) (r1 + 1) false) rfl rfl (by simp [go_sem, execOp, Act.eval, Act.put]) ?_
            refine wkO_val (v := .bool false) (w' := W3.setChan tk 1 #[] false (s1 + 1) (r1 + 1) false) rfl rfl (by simp [go_sem, execOp, Act.eval, Act.put]) ?_
            refine wkO_nil (wk_of ?_)
            simp only [Act.put, List.setIfInBounds_toArray, List.set_cons_zero, List.set_cons_succ, List.getElem_toArray, List.getElem_cons_zero, List.getElem_cons_succ]
            have hgr4 := grown_chan W3 tk 1 #[] false (s1 + 1) (r1 + 1) false
            have HST4 := Hid.of (HST3.out.aside hgr4 HI.out.bt.1 HI.out.nt.1 HI.out.rt.1)
            have ho4 : (W3.setChan tk 1 #[] false (s1 + 1) (r1 + 1) false).heap[en]? = _ := (hgr4.block en (lt_of_at ho3) (fun e => hne.symm (Option.some.inj e))).trans ho3
            have hw4 := heap_setChan W3 tk 1 #[] false (s1 + 1) (r1 + 1) false (lt_of_at hw3)
            have HSZ := Hid.of (Nat.le_trans hgr3.size hgr4.size)
            generalize W3.setChan tk 1 #[] false (s1 + 1) (r1 + 1) false = W4 at *
            have hnj : Sj.now = S.now + g := by
              have := congrArg AN.now HI.out.st.ab
              rw [itA_now] at this
              exact this
            have HT := Hid.of (tick_walk W4 Sj HST4.out.ok HST4.out.so (by omega) (by have := HI.out.st.mn; omega))
            rw [HI.out.st.nb] at HT
            have hgw : IntKind.i64.wrap ((g : Int) + 1) = (g : Int) + 1 := by rw [IntKind.wrap_i64]; omega
            clear hnj hgr3 hgr4 ct2 ce2 hw3 ho3
            go_wp2_with fail
            refine HT.out.mono ?_
            rintro e w5 ⟨rfl, S5, h5, h6⟩
            have hst5 : Stp w.heap.size 0 w w5 S S5 (itA (g + 1) (abs S)) := by
              have h7 := HST4.out.trans (h5.low (Nat.le_trans HI.out.st.fr.size (Nat.le_trans HU2.out.size (Nat.le_trans HSZ.out (Nat.le_refl _)))))
              rw [HI.out.st.ab] at h7
              exact h7
            have hltt := lt_of_at hw4
            have hlte := lt_of_at ho4
            have HI5 := Hid.of (show AwI w w5 S v is n tk en (g + 1) S5 from ⟨hst5, h6.trans HI.out.sh, ⟨_, _, (h5.fr.block tk hltt HI.out.nt.1).trans hw4⟩, ⟨_, _, (h5.fr.block en hlte HI.out.nt.2).trans ho4⟩, HI.out.ne, HI.out.bt,
              ⟨fun e => (h5.no _ e).elim HI.out.nt.1 (fun h => by omega), fun e => (h5.no _ e).elim HI.out.nt.2 (fun h => by omega)⟩, ⟨fun e => (h5.nr _ e).elim HI.out.rt.1 (fun h => by omega), fun e => (h5.nr _ e).elim HI.out.rt.2 (fun h => by omega)⟩,
              HL.out.st HV.out hst5.fr (shs_len (h6.trans HI.out.sh)), by
                have haw := HI.out.aw
                rw [show n - g = (n - (g + 1)) + 1 by omega, awA_tick (by rw [← hasM_abs]; exact HF.out) (by rw [← endI_abs HI.out.st.so]; exact HA.out)] at haw
                rw [← haw, h5.ab], hg⟩)
            clear h5 h6 hst5 hltt hlte hw4 ho4 HT
            dsimp only
            go_wp2
            refine wk_of ?_
            go_wp2
            refine ⟨⟨g + 1, _, _, _, _, _, _, _, _, _, _, _, _, _, _, _, _, _, _, _, _, _, _, _, _, _, _, _, _, _, _, _, _, _, _, _, _, _, _, _, _, _, rfl, Hid.of ⟨S5, HI5.out⟩⟩, ?_⟩
            simp [intOf]
            omega
        · have hgz : ¬ ((g : Int) < (n : Int)) := by omega
          have hres : rdyV Sj is = .tuple #[.int .i64 0, .chan none] := by
            unfold rdyV
            rw [hf]
            simp only [ha]
            rfl
          have HRES := Hid.of hres
          have HRD := Hid.of (ready_walk wr Sj v is hI.st.ok hI.ln)
          rw [hI.st.nb] at HRD
          have HI := Hid.of hI
          have HF := Hid.of hf
          have HA := Hid.of ha
          clear hres hI hf ha
          refine wk_seq (wk_block (wk_seq (wk_of ?_)))
          go_wp2_with fail
          refine HRD.out.mono ?_
          rintro e w2 ⟨rfl, u2⟩
          rw [HRES.out]
          dsimp only
          go_wp2
          obtain ⟨s1, r1, ct⟩ := HI.out.ct
          obtain ⟨s2, r2, ce⟩ := HI.out.ce
          have ct2 : w2.heap[tk]? = some (.chan 1 #[] false s1 r1 false) := (u2.block tk (lt_of_at ct)).trans ct
          have ce2 : w2.heap[en]? = some (.chan 1 #[] false s2 r2 false) := (u2.block en (lt_of_at ce)).trans ce
          have hne := HI.out.ne
          have HU2 := Hid.of u2
          clear ct ce u2
          have hnq : ∀ w', (binOp .neq 119 (.chan none) (.chan none)).run Try.prog w' = .ok (.bool false) w' := fun w' => neq_chan w' none
          refine wk_seq (wk_block (wk_seq (wk_of ?_)))
          go_wp2
          refine wk_cond_f rfl (wk_seq (wk_of ?_))
          go_wp2
          refine wk_cond_f rfl (wk_region ?_)
          simp only [List.size_toArray, List.length_cons, List.length_nil, Nat.reduceAdd, List.range, List.range.loop]
          refine wkO_val (v := .chan (some en)) (w' := w2) rfl rfl (by simp [go_sem, execOp, Act.eval]) ?_
          refine wkO_val (v := .int .i64 (g : Int)) (w' := w2) rfl rfl (by simp [go_sem, execOp, Act.eval, Act.put]) ?_
          have hw3 := heap_setChan w2 en 1 #[.int .i64 (g : Int)] false (s2 + 1) r2 false (lt_of_at ce2)
          have ho3 : (w2.setChan en 1 #[.int .i64 (g : Int)] false (s2 + 1) r2 false).heap[tk]? = w2.heap[tk]? := (grown_chan w2 en 1 #[.int .i64 (g : Int)] false (s2 + 1) r2 false).block tk (lt_of_at ct2) (fun e => hne (Option.some.inj e))
          refine wkO_comm (cases := #[scase en (.int .i64 (g : Int)) (.tuple #[])]) (blocking := true) (shape := .send) (w1 := w2) (w' := w2.setChan en 1 #[.int .i64 (g : Int)] false (s2 + 1) r2 false) (v := undef) rfl rfl (by simp [go_sem, execOp, scase, Act.eval, Act.put]) ?_ ?_
          · intro fr cs' es hst
            exact step_lone_send_room (c := en) (cap := 1) (buf := #[]) (s := s2) (r := r2) (tm := false) hst ce2 (by simp)
          rw [ct2] at ho3
          have hgr3 := grown_chan w2 en 1 #[.int .i64 (g : Int)] false (s2 + 1) r2 false
          have HST3 := Hid.of (((HI.out.st.trans (Stp.up HI.out.st.ok HI.out.st.so HU2.out)).aside hgr3 HI.out.bt.2 HI.out.nt.2 HI.out.rt.2))
          generalize w2.setChan en 1 #[.int .i64 (g : Int)] false (s2 + 1) r2 false = W3 at *
          refine wkO_nil ?_
          simp only [Act.put, List.setIfInBounds_toArray, List.set_cons_zero, List.set_cons_succ, List.getElem_toArray, List.getElem_cons_zero, List.getElem_cons_succ]
          refine wk_seq (wk_of ?_)
          go_wp2
          refine wk_seq (wk_region ?_)
          simp only [List.size_toArray, List.length_cons, List.length_nil, Nat.reduceAdd, List.range, List.range.loop]
          refine wkO_comm (cases := #[{ chan := .chan none, send := none, zero := nilS }, rcase tk (.int .i64 0), rcase en (.int .i64 0)]) (blocking := true) (shape := .select) (w1 := W3) (w' := W3.setChan en 1 #[] false (s2 + 1) (r2 + 1) false) (v := .tuple #[goInt 2, .bool true, nilS, .int .i64 0, .int .i64 (g : Int)]) rfl rfl (by simp [go_sem, execOp, rcase, Act.eval]) ?_ ?_
          · intro fr cs' es hst
            have := step_lone_sel_recv_buf (k := 2) (c := en) (cap := 1) (buf := #[.int .i64 (g : Int)]) (closed := false) (s := s2 + 1) (r := r2) (tm := false) (z := .int .i64 0) hst rfl (fun q c' hn hc' => ?_) hw3 (by simp)
            · rw [this]
              simp [commResult, rcase, List.zipIdx_cons]
            · rcases q with _ | _ | _ | q
              · simp only [List.getElem?_toArray, List.getElem?_cons_zero, Option.some.injEq] at hc'
                subst hc'
                exact noWay_nil none
              · simp only [List.getElem?_toArray, List.getElem?_cons_succ, List.getElem?_cons_zero, Option.some.injEq] at hc'
                subst hc'
                exact noWay_recv ho3
              · exact absurd rfl hn
              · simp at hc'
          · refine wkO_val (v := goInt 2) (w' := W3.setChan en 1 #[] false (s2 + 1) (r2 + 1) false) rfl rfl (by simp [go_sem, execOp, Act.eval, Act.put]) ?_
            refine wkO_val (v := .bool false) (w' := W3.setChan en 1 #[] false (s2 + 1) (r2 + 1) false) rfl rfl (by simp [go_sem, execOp, Act.eval, Act.put]) ?_
            refine wkO_val (v := .bool false) (w' := W3.setChan en 1 #[] false (s2 + 1) (r2 + 1) false) rfl rfl (by simp [go_sem, execOp, Act.eval, Act.put]) ?_
            refine wkO_val (v := .bool true) (w' := W3.setChan en 1 #[] false (s2 + 1) (r2 + 1) false) rfl rfl (by simp [go_sem, execOp, Act.eval, Act.put]) ?_
            refine wkO_nil (wk_of ?_)
            simp only [Act.put, List.setIfInBounds_toArray, List.set_cons_zero, List.set_cons_succ, List.getElem_toArray, List.getElem_cons_zero, List.getElem_cons_succ]
            have hgr4 := grown_chan W3 en 1 #[] false (s2 + 1) (r2 + 1) false
            have HST4 := Hid.of (HST3.out.aside hgr4 HI.out.bt.2 HI.out.nt.2 HI.out.rt.2)
            have ho4 : (W3.setChan en 1 #[] false (s2 + 1) (r2 + 1) false).heap[tk]? = _ := (hgr4.block tk (lt_of_at ho3) (fun e => hne (Option.some.inj e))).trans ho3
            have hw4 := heap_setChan W3 en 1 #[] false (s2 + 1) (r2 + 1) false (lt_of_at hw3)
            have HSZ := Hid.of (Nat.le_trans hgr3.size hgr4.size)
            generalize W3.setChan en 1 #[] false (s2 + 1) (r2 + 1) false = W4 at *
            go_wp2
            go_ret3
            obtain rfl : g = n := by have := HI.out.le; omega
            have haw := HI.out.aw
            rw [Nat.sub_self, awA_out (by rw [← hasM_abs]; exact HF.out) (by rw [← endI_abs HI.out.st.so]; exact HA.out)] at haw
            rw [← haw]
            exact ⟨nilS, Sj, rfl, World.ownsRow_nil _ _ _ _, HST4.out, HI.out.sh, Free.nil _ _ _⟩
end Go.Proofs.Ytdlfkdehfenemaa
