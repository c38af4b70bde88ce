import Derived.Test.YtdlfkdehfenemaaJe
import Derived.Test.YtdlfkdehfenemaaIa
import Derived.Deep.AppendSrc
namespace Go.Proofs.Ytdlfkdehfenemaa
open Go.RowKit Go.Conc TextNum
/-! ### the document's net -/
/-- a row of lists that may begin in the midst of its block -/
def OwnZ (w : World) (v : Value) (xs : List Value) : Prop := (v = .slice none 0 0 ∧ xs = []) ∨ ∃ g off cap cur, v = .slice (some ⟨g, off, none⟩) xs.length cap ∧ w.heap[g]? = some (.cells cur 47 (0, 0)) ∧ xs.length ≤ cap ∧ cap ≤ maxLen ∧ off + cap ≤ cur.size ∧ ∀ i (h : i < xs.length), cur[off + i]? = some xs[i]
theorem OwnZ.nil (w : World) : OwnZ w nilS [] := .inl ⟨rfl, rfl⟩
theorem OwnZ.tag {w : World} {v : Value} {xs : List Value} (h : OwnZ w v xs) {g : Nat} (hg : v.ownBlock = some g) : otag w g = some 47 := by
  rcases h with ⟨rfl, _⟩ | ⟨g', off, cap, cur, rfl, hb, _⟩
  · cases hg
  · obtain rfl : g' = g := Option.some.inj hg
    simp only [otag, hb]
theorem Fr.ownz {T : Nat → Prop} {w w' : World} {v : Value} {xs : List Value} (h : Fr T w w') (k : OwnZ w v xs) (hT : ∀ g, v.ownBlock = some g → ¬ T g) : OwnZ w' v xs := by
  rcases k with k | ⟨g, off, cap, cur, rfl, hb, r⟩
  · exact .inl k
  · exact .inr ⟨g, off, cap, cur, rfl, (h.block g (lt_of_at hb) (hT g rfl)).trans hb, r⟩
theorem OwnZ.shape {w : World} {v : Value} {xs : List Value} (h : OwnZ w v xs) : ∃ a c, v = .slice a xs.length c := by
  rcases h with ⟨rfl, rfl⟩ | ⟨g, off, cap, cur, rfl, _⟩
  · exact ⟨none, 0, rfl⟩
  · exact ⟨_, cap, rfl⟩
/-- a lane: the row of what waits, the messages, closed -/
structure RC where
  v : Value
  ms : List Msg
  sh : Bool
structure RS where
  nb : Nat
  fv : Value
  fs : List (Int × Int)
  st : Nat
  now : Nat
  wv : Value
  sv : Value
  ws : List RC
  lv : Value
  pd : List PC
abbrev rcl (R : RS) : List Value := [.int .i64 (R.now : Int), R.fv, .int .i64 (R.st : Int), R.wv, R.sv, R.lv]
def lcl (p : PC) : List Value := [.int .i64 (p.t : Int), .int .i64 (p.i : Int), p.m.v]
def rmsgs (R : RS) : List Msg := R.ws.flatMap (·.ms) ++ R.pd.map (·.m)
def wvs (ws : List RC) : List Value := ws.map (·.v)
def svs (ws : List RC) : List Value := ws.map fun l => .bool l.sh
structure ROk (w : World) (R : RS) : Prop where
  net : At w R.nb 114 (rcl R)
  ft : w.ownsRow 0 97 2 R.fv R.fs.length (R.fs.flatMap fc)
  wo : w.ownsRow 0 145 1 R.wv R.ws.length (wvs R.ws)
  so : w.ownsRow 0 4 1 R.sv R.ws.length (svs R.ws)
  lo : w.ownsRow 0 148 3 R.lv R.pd.length (R.pd.flatMap lcl)
  rw : ∀ l ∈ R.ws, OwnZ w l.v (l.ms.map (·.v))
  dis : ∀ (i j : Nat) (a b : RC) (g : Nat), i ≠ j → R.ws[i]? = some a → R.ws[j]? = some b → a.v.ownBlock = some g → b.v.ownBlock ≠ some g
  ms : ∀ m ∈ rmsgs R, Ow w 0 m.v m.d
/-- what the document's calls write, and what they read besides -/
def rown (R : RS) (k : Nat) : Prop := k = R.nb ∨ R.wv.ownBlock = some k ∨ R.sv.ownBlock = some k ∨ R.lv.ownBlock = some k ∨ ∃ l ∈ R.ws, l.v.ownBlock = some k
def rrd (R : RS) (k : Nat) : Prop := R.fv.ownBlock = some k ∨ ∃ m ∈ rmsgs R, m.v.ownBlock = some k
theorem ROk.tag {w : World} {R : RS} (h : ROk w R) {k : Nat} (hk : rown R k) : otag w k = some 114 ∨ otag w k = some 145 ∨ otag w k = some 4 ∨ otag w k = some 148 ∨ otag w k = some 47 := by
  rcases hk with rfl | hk | hk | hk | ⟨l, hl, hk⟩
  · exact .inl h.net.tag
  · exact .inr (.inl (row_tag h.wo hk))
  · exact .inr (.inr (.inl (row_tag h.so hk)))
  · exact .inr (.inr (.inr (.inl (row_tag h.lo hk))))
  · exact .inr (.inr (.inr (.inr ((h.rw l hl).tag hk))))
theorem ROk.tagr {w : World} {R : RS} (h : ROk w R) {k : Nat} (hk : rrd R k) : otag w k = some 97 ∨ otag w k = some 5 := by
  rcases hk with hk | ⟨m, hm, hk⟩
  · exact .inl (row_tag h.ft hk)
  · exact .inr (row_tag (h.ms m hm) hk)
theorem ROk.lt {w : World} {R : RS} (h : ROk w R) {k : Nat} (hk : rown R k) : k < w.heap.size := by
  rcases h.tag hk with h | h | h | h | h <;> exact otag_lt h
theorem ROk.ltr {w : World} {R : RS} (h : ROk w R) {k : Nat} (hk : rrd R k) : k < w.heap.size := by
  rcases h.tagr hk with h | h <;> exact otag_lt h
/-- what is done beside a net leaves it -/
theorem ROk.fr {T : Nat → Prop} {w w' : World} {R : RS} (h : ROk w R) (k : Fr T w w') (hT : ∀ g, rown R g → ¬ T g) (hR : ∀ g, rrd R g → ¬ T g) : ROk w' R :=
  ⟨k.at h.net (hT _ (.inl rfl)), k.own h.ft (fun g hg => hR g (.inl hg)), k.own h.wo (fun g hg => hT g (.inr (.inl hg))), k.own h.so (fun g hg => hT g (.inr (.inr (.inl hg)))), k.own h.lo (fun g hg => hT g (.inr (.inr (.inr (.inl hg))))),
   fun l hl => k.ownz (h.rw l hl) (fun g hg => hT g (.inr (.inr (.inr (.inr ⟨l, hl, hg⟩))))), h.dis, fun m hm => k.own (h.ms m hm) (fun g hg => hR g (.inr ⟨m, hm, hg⟩))⟩
theorem ROk.up {w w' : World} {R : RS} (h : ROk w R) (k : Up w w') : ROk w' R := h.fr (fr_of_up (fun _ => False) k) (fun _ _ h => h) (fun _ _ h => h)
/-- the net without its memory -/
def absR (R : RS) : AN := ⟨R.now, R.fs.drop R.st, R.ws.map (fun l => (l.ms.map (·.d), l.sh)), R.pd.map absP⟩
/-- a step of the document's net -/
structure RStp (N : Nat) (w w' : World) (R R' : RS) (A : AN) : Prop where
  ok : ROk w' R'
  ab : absR R' = A
  fr : Fr (rown R) w w'
  no : ∀ x, rown R' x → rown R x ∨ w.heap.size ≤ x
  nr : ∀ x, rrd R' x → rrd R x ∨ N ≤ x
  nb : R'.nb = R.nb
  fs : R'.fs = R.fs
  ln : R'.ws.length = R.ws.length
theorem RStp.refl {N : Nat} {w : World} {R : RS} (h : ROk w R) : RStp N w w R R (absR R) := ⟨h, rfl, Fr.refl _ _, fun _ h => .inl h, fun _ h => .inl h, rfl, rfl, rfl⟩
theorem RStp.up {N : Nat} {w w' : World} {R : RS} (h : ROk w R) (u : Up w w') : RStp N w w' R R (absR R) := ⟨h.up u, rfl, fr_of_up _ u, fun _ h => .inl h, fun _ h => .inl h, rfl, rfl, rfl⟩
theorem RStp.trans {N : Nat} {w w1 w2 : World} {R R1 R2 : RS} {A B : AN} (h : RStp N w w1 R R1 A) (g : RStp N w1 w2 R1 R2 B) : RStp N w w2 R R2 B :=
  ⟨g.ok, g.ab, h.fr.trans g.fr h.no, fun x hx => (g.no x hx).elim (h.no x) (fun h1 => .inr (Nat.le_trans h.fr.size h1)), fun x hx => (g.nr x hx).elim (h.nr x) .inr, g.nb.trans h.nb, g.fs.trans h.fs, g.ln.trans h.ln⟩
theorem RStp.base {N : Nat} {w w0 w' : World} {R R' : RS} {A : AN} (h : RStp N w0 w' R R' A) (u : Up w w0) : RStp N w w' R R' A :=
  ⟨h.ok, h.ab, (fr_of_up (rown R) u).trans h.fr (fun _ h => .inl h), fun x hx => (h.no x hx).elim .inl (fun h1 => .inr (Nat.le_trans u.size h1)), h.nr, h.nb, h.fs, h.ln⟩
theorem RStp.low {N N' : Nat} {w w' : World} {R R' : RS} {A : AN} (h : RStp N' w w' R R' A) (hn : N ≤ N') : RStp N w w' R R' A :=
  ⟨h.ok, h.ab, h.fr, h.no, fun x hx => (h.nr x hx).imp id (fun h => Nat.le_trans hn h), h.nb, h.fs, h.ln⟩
theorem RStp.up' {N : Nat} {w w1 w2 : World} {R R1 : RS} {A : AN} (h : RStp N w w1 R R1 A) (u : Up w1 w2) : RStp N w w2 R R1 A := by
  have := h.trans (RStp.up h.ok u)
  rw [h.ab] at this
  exact this
/-- one lane changes -/
abbrev wWs (R : RS) (i : Nat) (l' : RC) : RS := { R with ws := R.ws.set i l' }
theorem wvs_set (ws : List RC) (i : Nat) (l : RC) : wvs (ws.set i l) = (wvs ws).set i l.v := by simp [wvs, List.map_set]
theorem svs_set (ws : List RC) (i : Nat) (l : RC) : svs (ws.set i l) = (svs ws).set i (.bool l.sh) := by simp [svs, List.map_set]
theorem wvs_get {ws : List RC} {i : Nat} {l : RC} (h : ws[i]? = some l) : (wvs ws)[i]? = some l.v := by simp [wvs, h]
theorem svs_get {ws : List RC} {i : Nat} {l : RC} (h : ws[i]? = some l) : (svs ws)[i]? = some (.bool l.sh) := by simp [svs, h]
theorem rmsgs_set {R : RS} {i : Nat} {l' : RC} {m : Msg} (h : m ∈ rmsgs (wWs R i l')) : m ∈ l'.ms ∨ m ∈ rmsgs R := by
  unfold rmsgs at h ⊢
  rcases List.mem_append.1 h with h | h
  · obtain ⟨x, h1, h2⟩ := List.mem_flatMap.1 h
    rcases mem_set h1 with rfl | h1
    · exact .inl h2
    · exact .inr (List.mem_append.2 (.inl (List.mem_flatMap.2 ⟨x, h1, h2⟩)))
  · exact .inr (List.mem_append.2 (.inr h))
theorem set_get' {α : Type} {ws : List α} {i : Nat} {l l' : α} (h : ws[i]? = some l) : (ws.set i l')[i]? = some l' := by
  rw [List.getElem?_set_self (List.getElem?_eq_some_iff.1 h).1]
theorem set_same' {α : Type} : ∀ {l : List α} {i : Nat} {x : α}, l[i]? = some x → l.set i x = l
  | y :: r, 0, x, h => by
    obtain rfl : y = x := by simpa using h
    rfl
  | y :: r, i + 1, x, h => by rw [List.set_cons_succ, set_same' (by simpa using h)]
theorem ROk.lane {w w' : World} {R : RS} (h : ROk w R) {i : Nat} {l l' : RC} (hl : R.ws[i]? = some l) (hs : l'.sh = l.sh) (hr : w'.ownsRow 0 145 1 R.wv R.ws.length (wvs (R.ws.set i l'))) (hz : OwnZ w' l'.v (l'.ms.map (·.v)))
    (hf : Fr (fun k => R.wv.ownBlock = some k ∨ l.v.ownBlock = some k) w w') (hn : Frs w l.v l'.v) (hm : ∀ m ∈ l'.ms, Ow w' 0 m.v m.d) : ROk w' (wWs R i l') := by
  have lt : ∀ {x : RC} {g : Nat}, x ∈ R.ws → x.v.ownBlock = some g → g < w.heap.size := fun hx hg => otag_lt ((h.rw _ hx).tag hg)
  have no : ∀ k t, otag w k = some t → t ≠ 145 → t ≠ 47 → ¬ (R.wv.ownBlock = some k ∨ l.v.ownBlock = some k) := by
    intro k t ht h1 h2 hk
    rcases hk with hk | hk
    · rw [row_tag h.wo hk] at ht; exact h1 (Option.some.inj ht).symm
    · rw [(h.rw l (get_mem hl)).tag hk] at ht; exact h2 (Option.some.inj ht).symm
  refine ⟨?_, ?_, ?_, ?_, ?_, ?_, ?_, ?_⟩
  · exact hf.at h.net (no _ _ h.net.tag (by decide) (by decide))
  · exact hf.own h.ft (fun g hg => no g _ (row_tag h.ft hg) (by decide) (by decide))
  · simpa only [List.length_set] using hr
  · have := hf.own h.so (fun g hg => no g _ (row_tag h.so hg) (by decide) (by decide))
    have e : svs (R.ws.set i l') = svs R.ws := by
      rw [svs_set, hs]
      exact set_same' (svs_get hl)
    simpa only [List.length_set, e] using this
  · exact hf.own h.lo (fun g hg => no g _ (row_tag h.lo hg) (by decide) (by decide))
  · intro x hx
    obtain ⟨j, hj⟩ := List.getElem?_of_mem hx
    by_cases e : i = j
    · subst e
      rw [set_get' hl] at hj
      obtain rfl := Option.some.inj hj
      exact hz
    · rw [List.getElem?_set_ne e] at hj
      refine hf.ownz (h.rw x (get_mem hj)) (fun g hg hk => ?_)
      rcases hk with hk | hk
      · have h1 := row_tag h.wo hk
        rw [(h.rw x (get_mem hj)).tag hg] at h1
        cases h1
      · exact h.dis i j l x g e hl hj hk hg
  · have key : ∀ (j : Nat) (b : RC) (g : Nat), i ≠ j → R.ws[j]? = some b → l'.v.ownBlock = some g → b.v.ownBlock ≠ some g := fun j b g e hj hg hb => by
      rcases hn g hg with h1 | h1
      · exact h.dis i j l b g e hl hj h1 hb
      · have := lt (get_mem hj) hb
        omega
    intro j j' a b g hne ha hb hg
    by_cases e : i = j
    · subst e
      rw [set_get' hl] at ha
      obtain rfl := Option.some.inj ha
      rw [List.getElem?_set_ne hne] at hb
      exact key j' b g hne hb hg
    · rw [List.getElem?_set_ne e] at ha
      by_cases e' : i = j'
      · subst e'
        rw [set_get' hl] at hb
        obtain rfl := Option.some.inj hb
        exact fun hb2 => key j a g e ha hb2 hg
      · rw [List.getElem?_set_ne e'] at hb
        exact h.dis j j' a b g hne ha hb hg
  · intro m hm2
    rcases rmsgs_set hm2 with h1 | h1
    · exact hm m h1
    · exact hf.own (h.ms m h1) (fun g hg => no g _ (row_tag (h.ms m h1) hg) (by decide) (by decide))
theorem rown_set {R : RS} {i : Nat} {l l' : RC} {w : World} (hl : R.ws[i]? = some l) (hn : Frs w l.v l'.v) {x : Nat} (hx : rown (wWs R i l') x) : rown R x ∨ w.heap.size ≤ x := by
  rcases hx with hx | hx | hx | hx | ⟨y, hy, hx⟩
  · exact .inl (.inl hx)
  · exact .inl (.inr (.inl hx))
  · exact .inl (.inr (.inr (.inl hx)))
  · exact .inl (.inr (.inr (.inr (.inl hx))))
  · rcases mem_set hy with rfl | hy
    · exact (hn x hx).imp (fun h => .inr (.inr (.inr (.inr ⟨l, get_mem hl, h⟩)))) id
    · exact .inl (.inr (.inr (.inr (.inr ⟨y, hy, hx⟩))))
theorem fr_lane {R : RS} {i : Nat} {l : RC} {w w' : World} (hl : R.ws[i]? = some l) (h : Fr (fun k => R.wv.ownBlock = some k ∨ l.v.ownBlock = some k) w w') : Fr (rown R) w w' := h.weak fun g hg => by
  rcases hg with hg | hg
  · exact .inr (.inl hg)
  · exact .inr (.inr (.inr (.inr ⟨l, get_mem hl, hg⟩)))
end Go.Proofs.Ytdlfkdehfenemaa
namespace Go.Proofs.Ytdlfkdehfenemaa
open Go.RowKit Go.Conc TextNum
theorem infoSl : (Try.prog.info? 47).map (fun i => (i.zero, i.size, i.bytes)) = some (some (.slice none 0 0), 1, 24) := by kernel_rfl
theorem OwnZ.of_row {w : World} {B n : Nat} {v : Value} {xs : List Value} (h : w.ownsRow B 47 1 v n xs) : OwnZ w v xs := by
  have hl : xs.length = n := by have := h.1; omega
  rcases h.2 with ⟨rfl, rfl⟩ | ⟨g, cap, cur, rfl, _, hg, hnc, hcm, hcs, htake⟩
  · exact .inl ⟨rfl, List.eq_nil_of_length_eq_zero hl⟩
  · refine .inr ⟨g, 0, cap, cur, by rw [hl], hg, by omega, hcm, by omega, fun i hi => ?_⟩
    have : (cur.toList.take (n * 1))[i]? = some xs[i] := by rw [htake]; exact List.getElem?_eq_getElem hi
    rw [List.getElem?_take_of_lt (by omega)] at this
    rw [Nat.zero_add]
    simpa using this
theorem add_pl (b o j : Nat) : (⟨b, o, none⟩ : Addr).add j = ⟨b, o + j, none⟩ := by unfold Addr.add; split <;> simp_all
set_option maxRecDepth 100000 in
theorem run_app_Z {w : World} {v : Value} {xs : List Value} (y : Value) (ty : TypeId) (hown : OwnZ w v xs) (ad : Addr) (c : Nat) (hx : w.cell? ad = some y) (h1 : y.oneCell' = true) (hn : xs.length < 1099511627776) :
    ∃ v' w', (Builtin.append_ #[145, 145] ty #[v, .slice (some ad) 1 c]).run Try.prog w = .ok v' w' ∧ OwnZ w' v' (xs ++ [y]) ∧ w.grownBy w' v.ownBlock ∧ Frs w v v' := by
  obtain ⟨i, hi, hz, hsize, hby⟩ := info_parts infoSl
  have ht : Try.prog.underlying 145 = some (.slice 47) := Try.underlying145
  have hadd0 : ad.add 0 = ad := by obtain ⟨b, o, sp⟩ := ad; unfold Addr.add; split <;> simp_all
  have hnews : ∀ j u, ([y] : List Value)[j]? = some u → w.cell? (ad.add j) = some u := fun j u hj => by
    match j, hj with
    | 0, hj => simp at hj; rw [hadd0, hx, hj]
  have hone : ∀ u ∈ ([y] : List Value), u.oneCell' = true := fun u hu => by simp at hu; subst hu; exact h1
  rcases hown with ⟨rfl, rfl⟩ | ⟨g, off, cap, cur, rfl, hg, hl, hcm, hsz, hcell⟩
  · obtain ⟨v', w', hr, ho, hgr, hfr⟩ := run_append_frsN (P := Try.prog) w 0 145 ty 47 i nilS 1 24 ht hi hz hsize hby rfl (by decide) nilS 0 [] (World.ownsRow_nil _ _ _ _) ad 1 c [y] rfl hnews hone (by simp [maxLen]) (by decide) (Nat.zero_le _)
    exact ⟨v', w', hr, .of_row ho, hgr, hfr⟩
  · have hs : Src Try.prog i.size 145 (.slice (some ad) 1 c) 1 [y] w := Src.ofSlice w ht ad 1 c _ (by rw [hsize]; rfl) hnews hone
    have hcw : ∀ j (h : j < xs.length), w.cell? ⟨g, off + j, none⟩ = some xs[j] := fun j h => by rw [cell_of_row w g (off + j) cur _ (0, 0) hg]; exact hcell j h
    have hglt : g < w.heap.size := (Array.getElem?_eq_some_iff.1 hg).1
    by_cases hroom : xs.length + 1 ≤ cap
    · have hr := run_append_room_src (P := Try.prog) w 145 145 ty 47 i ht hi g off xs.length cap _ 1 _ hs hroom (fun j hj => by
        have hj0 : j = 0 := by simpa using hj
        subst hj0
        rw [hsize, Nat.mul_one, Nat.add_zero, cell_of_row w g (off + xs.length) cur _ (0, 0) hg, Array.getElem?_eq_getElem (by omega)]
        rfl) (fun j hj => by
        have hj0 : j = 0 := by simpa using hj
        subst hj0
        simp [World.frozen?, hg])
      rw [hsize, Nat.mul_one] at hr
      have e : w.setCells g (off + xs.length) [y] = w.setCell ⟨g, off + xs.length, none⟩ y := rfl
      rw [e] at hr
      have hrow := setRow_heap w g cur (cur.setIfInBounds (off + xs.length) y) 47 (0, 0) hg
      rw [← setCell_eq_setRow w g (off + xs.length) cur _ (0, 0) _ hg] at hrow
      refine ⟨_, _, hr, .inr ⟨g, off, cap, _, by rw [List.length_append]; rfl, hrow, by rw [List.length_append]; exact hroom, hcm, by simpa using hsz, fun j hj => ?_⟩, grown_set w ⟨g, off + xs.length, none⟩ _, Frs.same rfl⟩
      rw [Array.getElem?_setIfInBounds]
      rcases Nat.lt_or_ge j xs.length with h | h
      · rw [if_neg (by omega), List.getElem_append_left h]
        exact hcell j h
      · have hj2 : j = xs.length := by rw [List.length_append] at hj; simp at hj; omega
        subst hj2
        rw [if_pos rfl, if_pos (by omega), List.getElem_append_right (Nat.le_refl _)]
        simp
    · have hold := run_firstCells_some (P := Try.prog) w.drew i.size xs.length ⟨g, off, none⟩ xs.length cap xs (by rw [hsize, Nat.mul_one]) (fun j u hj => by
        obtain ⟨hjl, rfl⟩ := List.getElem?_eq_some_iff.1 hj
        rw [add_pl]
        exact (World.cell?_drew _ _).trans (hcw j hjl))
      have hr := run_append_grow_src (P := Try.prog) w 145 145 ty 47 i _ ht hi hz (some ⟨g, off, none⟩) xs.length cap xs hold _ 1 _ hs (by omega) (by omega) (growslice_fits (by omega) (by rw [hby]; omega))
      have hge := grownCap_ge w (xs.length + 1) cap 47
      have hle := grownCap_le_maxLen w (xs.length + 1) cap 47 (by simp only [maxLen]; omega)
      refine ⟨_, _, hr, .inr ⟨w.heap.size, 0, _, _, by rw [List.length_append]; rfl, heap_alloc_new w.drew _, by rw [List.length_append]; exact hge, hle, ?_, fun j hj => ?_⟩, ⟨rfl, rfl, rfl, by simp, fun k hk _ => heap_alloc_old w.drew _ hk⟩, Frs.new (Nat.le_refl _)⟩
      · have hzc : (nilS : Value).cells.size = 1 := rfl
        simp only [Array.size_append, List.size_toArray, List.length_append, List.length_cons, List.length_nil, size_zeroCells, hzc]
        omega
      · rw [Nat.zero_add, ← Array.getElem?_toList, Array.toList_append, List.getElem?_append_left (by simpa using hj)]
        simp
/-- one less in front -/
theorem OwnZ.drop {w : World} {g off n c : Nat} {x : Value} {xs : List Value} (h : OwnZ w (.slice (some ⟨g, off, none⟩) n c) (x :: xs)) : OwnZ w (sliced (some ⟨g, off, none⟩) 1 n c 1) xs := by
  rcases h with ⟨h, _⟩ | ⟨g', off', cap', cur, e, hg, hl, hcm, hs, hc⟩
  · cases h
  · injection e with e1 e2 e3
    injection e1 with e1
    injection e1 with e1 e4 _
    subst e1 e4 e3 e2
    simp only [List.length_cons] at hl ⊢
    unfold sliced
    by_cases h1 : c = 1
    · have : xs = [] := List.eq_nil_of_length_eq_zero (by omega)
      subst this
      subst h1
      rw [if_pos rfl]
      exact .inr ⟨g, off, 0, cur, rfl, hg, Nat.zero_le _, Nat.zero_le _, by omega, fun i hi => absurd hi (by simp)⟩
    · rw [if_neg h1, Option.map_some, Nat.mul_one, add_pl]
      refine .inr ⟨g, off + 1, c - 1, cur, by rw [Nat.add_sub_cancel], hg, by omega, by omega, by omega, fun i hi => ?_⟩
      have := hc (i + 1) (by simp; omega)
      rw [show off + 1 + i = off + (i + 1) by omega, this]
      rfl
theorem own_thaw {w : World} {B n g c : Nat} {e : TypeId} {m : Nat} {xs : List Value} (h : w.ownsRow B e m (.slice (some ⟨g, 0, none⟩) n c) n xs) (j : Nat) : w.frozen? ⟨g, j, none⟩ = false := by
  rcases h.2 with ⟨e, _⟩ | ⟨g', cap, cur, e, _, hg, _⟩
  · cases e
  · injection e with e1 e2 e3
    injection e1 with e1
    injection e1 with e1
    subst e1
    simp [World.frozen?, hg]
def comeR (l : RC) (m : Msg) (v' : Value) : RC := if l.ms.length < 64 then ⟨v', l.ms ++ [m], l.sh⟩ else l
theorem absR_come {R : RS} {i : Nat} {l : RC} {m : Msg} {v' : Value} (hl : R.ws[i]? = some l) : absR (wWs R i (comeR l m v')) = putA (absR R) i m.d := by
  unfold absR putA
  dsimp only
  rw [map_set_modify (fun l : RC => (l.ms.map (·.d), l.sh)) (comeA · m.d) _ _ _ _ hl]
  unfold comeR comeA
  by_cases h : l.ms.length < 64
  · simp [h]
  · simp [h]
set_option maxRecDepth 100000 in
set_option maxHeartbeats 1000000 in
theorem Rcome_walk (w : World) (R : RS) (i : Nat) (l : RC) (m : Msg) (h : ROk w R) (hl : R.ws[i]? = some l) (hm : Ow w 0 m.v m.d) {N : Nat} (hN : ∀ k, m.v.ownBlock = some k → N ≤ k) :
    Calls Try.prog 77 #[.pointer (some ⟨R.nb, 0, none⟩), .int .i64 (i : Int), m.v] w fun e w' => e = .returned (.tuple #[]) ∧ ∃ v', RStp N w w' R (wWs R i (comeR l m v')) (putA (absR R) i m.d) := by
  have hi := (List.getElem?_eq_some_iff.1 hl).1
  obtain ⟨wa, wc, hwv⟩ := row_len h.wo
  have hwo := h.wo
  rw [hwv] at hwo
  obtain ⟨wb, rfl, hwc, hx, hcl⟩ := own_get hwo hi
  have hgl : (wvs R.ws)[i] = l.v := by
    have := wvs_get hl
    rw [List.getElem?_eq_getElem hx] at this
    exact Option.some.inj this
  rw [hgl] at hcl
  obtain ⟨mv, md⟩ := m
  dsimp only at hm hN ⊢
  obtain ⟨ma, mc, rfl, _⟩ := Ow.sb hm
  obtain ⟨lv, ms, sh⟩ := l
  have hz := h.rw _ (get_mem hl)
  dsimp only at hz hcl
  obtain ⟨la, lc, rfl⟩ := hz.shape
  rw [List.length_map] at *
  have c3 := h.net.cell (i := 3) rfl
  rw [hwv] at c3
  have hne : ∀ g, (Value.slice la ms.length lc).ownBlock = some g → g ≠ R.nb ∧ g ≠ wb := fun g hg => by
    have t := hz.tag hg
    refine ⟨fun e => ?_, fun e => ?_⟩
    · rw [e, h.net.tag] at t; cases t
    · rw [e, row_tag hwo rfl] at t; cases t
  have HNE := Hid.of hne
  have hwt := row_tag hwo (g := wb) rfl
  have HC3 := Hid.of (show ∀ w5, Fr (fun k => k = wb ∨ (Value.slice la ms.length lc).ownBlock = some k) w w5 → w5.cell? ⟨R.nb, 3, none⟩ = some (.slice (some ⟨wb, 0, none⟩) R.ws.length wc) from fun w5 hf => by
    rw [World.cell?_of_block (a := ⟨R.nb, 3, none⟩) (hf.block _ (lt_of_at h.net) (fun e => e.elim (fun e => by rw [← e, h.net.tag] at hwt; cases hwt) (fun e => (hne _ e).1 rfl)))]
    exact c3)
  have HC4 := Hid.of (show ∀ w5, Fr (fun k => (Value.slice la ms.length lc).ownBlock = some k) w w5 → w5.cell? ⟨wb, i, none⟩ = some (.slice la ms.length lc) from fun w5 hf => by
    rw [World.cell?_of_block (a := ⟨wb, i, none⟩) (hf.block _ (hwo.lt wb rfl).2 (fun e => (hne _ e).2 rfl))]
    exact hcl)
  have HN := Hid.of h
  have HZ := Hid.of hz
  have HM := Hid.of hm
  have HL := Hid.of hl
  have HWV := Hid.of hwv
  have HWO := Hid.of hwo
  have HNN := Hid.of hN
  have hiz : (i : Int) < (R.ws.length : Int) := by omega
  clear h hz hm hl hwv hwo hgl hne hx hN hwc hwt
  by_cases h64 : ms.length < 64
  · have h64z : (ms.length : Int) < 64 := by omega
    go_enter Try.func77, Try.ntmps77
    go_wp2
    clear c3 hcl
    refine wp_region_held_drew (S := fun w2 => Fr (fun k => k = wb ∨ (Value.slice la ms.length lc).ownBlock = some k) w w2) (by kernel_rfl) ((Fr.refl _ _).up (Up.refl _).drew) (fun hS => ?_)
    refine wpAnyH_take (i := 0) (oi := { dst := some 15, op := Go.Op.move (Go.Operand.tmp 0), type := 35, pos := "ref.go:92", after := #[], guard := none }) (v := .pointer (some ⟨R.nb, 0, none⟩)) rfl (by kernel_rfl) (by kernel_rfl) (by kernel_rfl) (fun _ _ _ h => h) (Or.inl ⟨by kernel_rfl, ?_⟩) hS ?_
    · intro w5 hSw
      clear hSw hS
      go_simp
    simp only [Act.put, List.setIfInBounds_toArray, List.set_cons_zero, List.set_cons_succ]
    refine wpAnyH_take (i := 1) (oi := { dst := some 16, op := Go.Op.nilCheck (Go.Operand.tmp 15), type := 0, pos := "ref.go:92", after := #[{ on := 0, ground := Go.Ground.data }], guard := none }) (v := .pointer (some ⟨R.nb, 0, none⟩)) rfl (by kernel_rfl) (by kernel_rfl) (by kernel_rfl) (fun _ _ _ h => h) (Or.inl ⟨by kernel_rfl, ?_⟩) hS ?_
    · intro w5 hSw
      clear hSw hS
      go_simp
    simp only [Act.put, List.setIfInBounds_toArray, List.set_cons_zero, List.set_cons_succ]
    refine wpAnyH_take (i := 2) (oi := { dst := some 17, op := Go.Op.fieldAddr 114 (Go.Operand.tmp 16) 3, type := 0, pos := "ref.go:92", after := #[{ on := 1, ground := Go.Ground.data }], guard := none }) (v := .pointer (some ⟨R.nb, 3, none⟩)) rfl (by kernel_rfl) (by kernel_rfl) (by kernel_rfl) (fun _ _ _ h => h) (Or.inl ⟨by kernel_rfl, ?_⟩) hS ?_
    · intro w5 hSw
      clear hSw hS
      go_simp
    simp only [Act.put, List.setIfInBounds_toArray, List.set_cons_zero, List.set_cons_succ]
    refine wpAnyH_take (i := 3) (oi := { dst := some 18, op := Go.Op.load 111 (Go.Operand.tmp 17), type := 111, pos := "ref.go:92", after := #[{ on := 2, ground := Go.Ground.data }], guard := none }) (v := .slice (some ⟨wb, 0, none⟩) R.ws.length wc) rfl (by kernel_rfl) (by kernel_rfl) (by kernel_rfl) (fun _ _ _ h => h) (Or.inl ⟨by kernel_rfl, ?_⟩) hS ?_
    · intro w5 hSw
      have h0 := HC3.out w5 hSw
      clear hSw hS
      go_simp
    simp only [Act.put, List.setIfInBounds_toArray, List.set_cons_zero, List.set_cons_succ]
    refine wpAnyH_take (i := 4) (oi := { dst := some 19, op := Go.Op.move (Go.Operand.tmp 1), type := 3, pos := "ref.go:92", after := #[], guard := none }) (v := .int .i64 (i : Int)) rfl (by kernel_rfl) (by kernel_rfl) (by kernel_rfl) (fun _ _ _ h => h) (Or.inl ⟨by kernel_rfl, ?_⟩) hS ?_
    · intro w5 hSw
      clear hSw hS
      go_simp
    simp only [Act.put, List.setIfInBounds_toArray, List.set_cons_zero, List.set_cons_succ]
    refine wpAnyH_take (i := 5) (oi := { dst := some 20, op := Go.Op.move (Go.Operand.tmp 0), type := 35, pos := "ref.go:92", after := #[], guard := none }) (v := .pointer (some ⟨R.nb, 0, none⟩)) rfl (by kernel_rfl) (by kernel_rfl) (by kernel_rfl) (fun _ _ _ h => h) (Or.inl ⟨by kernel_rfl, ?_⟩) hS ?_
    · intro w5 hSw
      clear hSw hS
      go_simp
    simp only [Act.put, List.setIfInBounds_toArray, List.set_cons_zero, List.set_cons_succ]
    refine wpAnyH_take (i := 6) (oi := { dst := some 21, op := Go.Op.nilCheck (Go.Operand.tmp 20), type := 0, pos := "ref.go:92", after := #[{ on := 5, ground := Go.Ground.data }], guard := none }) (v := .pointer (some ⟨R.nb, 0, none⟩)) rfl (by kernel_rfl) (by kernel_rfl) (by kernel_rfl) (fun _ _ _ h => h) (Or.inl ⟨by kernel_rfl, ?_⟩) hS ?_
    · intro w5 hSw
      clear hSw hS
      go_simp
    simp only [Act.put, List.setIfInBounds_toArray, List.set_cons_zero, List.set_cons_succ]
    refine wpAnyH_take (i := 7) (oi := { dst := some 22, op := Go.Op.fieldAddr 114 (Go.Operand.tmp 21) 3, type := 0, pos := "ref.go:92", after := #[{ on := 6, ground := Go.Ground.data }], guard := none }) (v := .pointer (some ⟨R.nb, 3, none⟩)) rfl (by kernel_rfl) (by kernel_rfl) (by kernel_rfl) (fun _ _ _ h => h) (Or.inl ⟨by kernel_rfl, ?_⟩) hS ?_
    · intro w5 hSw
      clear hSw hS
      go_simp
    simp only [Act.put, List.setIfInBounds_toArray, List.set_cons_zero, List.set_cons_succ]
    refine wpAnyH_take (i := 8) (oi := { dst := some 23, op := Go.Op.load 111 (Go.Operand.tmp 22), type := 111, pos := "ref.go:92", after := #[{ on := 7, ground := Go.Ground.data }], guard := none }) (v := .slice (some ⟨wb, 0, none⟩) R.ws.length wc) rfl (by kernel_rfl) (by kernel_rfl) (by kernel_rfl) (fun _ _ _ h => h) (Or.inl ⟨by kernel_rfl, ?_⟩) hS ?_
    · intro w5 hSw
      have h0 := HC3.out w5 hSw
      clear hSw hS
      go_simp
    simp only [Act.put, List.setIfInBounds_toArray, List.set_cons_zero, List.set_cons_succ]
    refine wpAnyH_take (i := 9) (oi := { dst := some 24, op := Go.Op.move (Go.Operand.tmp 1), type := 3, pos := "ref.go:92", after := #[], guard := none }) (v := .int .i64 (i : Int)) rfl (by kernel_rfl) (by kernel_rfl) (by kernel_rfl) (fun _ _ _ h => h) (Or.inl ⟨by kernel_rfl, ?_⟩) hS ?_
    · intro w5 hSw
      clear hSw hS
      go_simp
    simp only [Act.put, List.setIfInBounds_toArray, List.set_cons_zero, List.set_cons_succ]
    refine wpAnyH_take (i := 10) (oi := { dst := some 25, op := Go.Op.indexAddr 111 (Go.Operand.tmp 23) (Go.Operand.tmp 24), type := 0, pos := "ref.go:92", after := #[{ on := 8, ground := Go.Ground.data }, { on := 9, ground := Go.Ground.data }], guard := none }) (v := .pointer (some ⟨wb, i, none⟩)) rfl (by kernel_rfl) (by kernel_rfl) (by kernel_rfl) (fun _ _ _ h => h) (Or.inl ⟨by kernel_rfl, ?_⟩) hS ?_
    · intro w5 hSw
      clear hSw hS
      go_simp
    simp only [Act.put, List.setIfInBounds_toArray, List.set_cons_zero, List.set_cons_succ]
    refine wpAnyH_take (i := 12) (oi := { dst := some 27, op := Go.Op.move (Go.Operand.tmp 2), type := 47, pos := "ref.go:92", after := #[], guard := none }) (v := .slice ma md.length mc) rfl (by kernel_rfl) (by kernel_rfl) (by kernel_rfl) (fun _ _ _ h => h) (Or.inl ⟨by kernel_rfl, ?_⟩) hS ?_
    · intro w5 hSw
      clear hSw hS
      go_simp
    simp only [Act.put, List.setIfInBounds_toArray, List.set_cons_zero, List.set_cons_succ]
    refine wpAnyH_ready (rs := [11, 13]) (by kernel_rfl) (by simp) ?_
    refine AllReadyH.cons (o := { dst := some 26, op := Go.Op.load 145 (Go.Operand.tmp 25), type := 145, pos := "ref.go:92", after := #[{ on := 10, ground := Go.Ground.data }], guard := none }) rfl (fun K hK => ?_) (AllReadyH.cons (o := { dst := some 28, op := Go.Op.buildSlice 145 1 #[(0, Go.Operand.tmp 27)], type := 145, pos := "ref.go:92", after := #[{ on := 12, ground := Go.Ground.data }], guard := none }) rfl (fun K hK => ?_) (AllReadyH.nil))
    · rw [if_pos (by kernel_rfl)]
      have h0 := HC4.out _ (show Fr _ w _ from by first | exact (Fr.refl _ w).up HU4.out | exact (Fr.refl _ w).up (Up.refl w).drew)
      go_simp
      refine hK.out _ _ hS (fun hS2 => ?_)
      clear hK K hS h0
      have hS := hS2
      clear hS2
      refine wpAnyH_ready (rs := [13]) (by kernel_rfl) (by simp) ?_
      refine AllReadyH.cons (o := { dst := some 28, op := Go.Op.buildSlice 145 1 #[(0, Go.Operand.tmp 27)], type := 145, pos := "ref.go:92", after := #[{ on := 12, ground := Go.Ground.data }], guard := none }) rfl (fun K hK => ?_) AllReadyH.nil
      rw [if_pos (by kernel_rfl)]
      go_simp
      have HU4 := Hid.of (((Up.refl w).alloc (.cells #[.slice ma md.length mc] 47)).drew)
      have HA4 := Hid.of ((at_new w 47 [.slice ma md.length mc]).up (Up.refl _).drew)
      generalize hW4 : (w.alloc (.cells #[.slice ma md.length mc] 47)).drew = W4 at *
      have HA4 : Hid (At W4 w.heap.size 47 [.slice ma md.length mc]) := by
        rw [← hW4]
        exact (at_new w 47 [.slice ma md.length mc]).up (Up.refl _).drew
      clear hW4
      refine hK.out _ _ ((Fr.refl _ _).up HU4.out) (fun hS2 => ?_)
      clear hK K hS
      have hS := hS2
      clear hS2
      refine wpAnyH_ready (rs := [14]) (by kernel_rfl) (by simp) ?_
      refine AllReadyH.cons (o := { dst := some 29, op := Go.Op.call { callee := Go.Callee.builtin Go.Builtin.append, args := #[Go.Operand.tmp 26, Go.Operand.tmp 28], argTypes := #[145, 145] }, type := 145, pos := "ref.go:92", after := #[{ on := 11, ground := Go.Ground.data }, { on := 13, ground := Go.Ground.data }], guard := none }) rfl (fun K hK => ?_) AllReadyH.nil
      rw [if_pos (by kernel_rfl)]
      have hz4 : OwnZ W4 (.slice la ms.length lc) (ms.map (·.v)) := (fr_of_up (fun _ => False) HU4.out).ownz HZ.out (fun _ _ h => h)
      obtain ⟨v5, W5, hap, ho5, hg5, hfr5⟩ := run_app_Z (.slice ma md.length mc) 145 hz4 ⟨w.heap.size, 0, none⟩ 1 (HA4.out.cell (i := 0) rfl) rfl (by rw [List.length_map]; omega)
      obtain ⟨va, vc, rfl⟩ := ho5.shape
      have hlv : (ms.map (·.v) ++ [Value.slice ma md.length mc]).length = ms.length + 1 := by simp
      rw [hlv] at hap ho5 hfr5
      have HF5 := Hid.of (((Fr.refl (fun k => (Value.slice la ms.length lc).ownBlock = some k) w).up HU4.out).by hg5 (fun g hg => .inl hg))
      have HZ5 := Hid.of ho5
      have HFs := Hid.of (show Frs w (.slice la ms.length lc) (.slice va (ms.length + 1) vc) from fun g hg => (hfr5 g hg).imp id (fun h => Nat.le_trans HU4.out.size h))
      clear ho5 hg5 hfr5 hlv hz4
      refine wp_app (v := .slice la ms.length lc) (y := .slice (some ⟨w.heap.size, 0, none⟩) 1 1) rfl rfl rfl hap ?_
      simp only [Act.put, List.setIfInBounds_toArray, List.set_cons_zero, List.set_cons_succ]
      refine hK.out _ _ (HF5.out.weak (fun g hg => .inr hg)) (fun hS2 => ?_)
      clear hK K hS hap
      have hS := hS2
      clear hS2
      refine wpAnyH_take (i := 15) (oi := { dst := some 30, op := Go.Op.indexAddr 111 (Go.Operand.tmp 18) (Go.Operand.tmp 19), type := 0, pos := "ref.go:92", after := #[{ on := 3, ground := Go.Ground.data }, { on := 4, ground := Go.Ground.data }, { on := 0, ground := Go.Ground.phase }, { on := 1, ground := Go.Ground.phase }, { on := 2, ground := Go.Ground.phase }, { on := 3, ground := Go.Ground.phase }, { on := 4, ground := Go.Ground.phase }, { on := 5, ground := Go.Ground.phase }, { on := 6, ground := Go.Ground.phase }, { on := 7, ground := Go.Ground.phase }, { on := 8, ground := Go.Ground.phase }, { on := 9, ground := Go.Ground.phase }, { on := 10, ground := Go.Ground.phase }, { on := 11, ground := Go.Ground.phase }, { on := 12, ground := Go.Ground.phase }, { on := 13, ground := Go.Ground.phase }, { on := 14, ground := Go.Ground.phase }], guard := none }) (v := .pointer (some ⟨wb, i, none⟩)) rfl (by kernel_rfl) (by kernel_rfl) (by kernel_rfl) (fun _ _ _ h => h) (Or.inl ⟨by kernel_rfl, ?_⟩) hS ?_
      · intro w5 hSw
        clear hSw hS
        go_simp
      simp only [Act.put, List.setIfInBounds_toArray, List.set_cons_zero, List.set_cons_succ]
      refine wpAnyH_ready (rs := [16]) (by kernel_rfl) (by simp) ?_
      refine AllReadyH.cons (o := { dst := none, op := Go.Op.store 145 (Go.Operand.tmp 30) (Go.Operand.tmp 29), type := 0, pos := "ref.go:92", after := #[{ on := 15, ground := Go.Ground.data }, { on := 14, ground := Go.Ground.data }, { on := 14, ground := Go.Ground.chain }, { on := 0, ground := Go.Ground.phase }, { on := 1, ground := Go.Ground.phase }, { on := 2, ground := Go.Ground.phase }, { on := 3, ground := Go.Ground.phase }, { on := 4, ground := Go.Ground.phase }, { on := 5, ground := Go.Ground.phase }, { on := 6, ground := Go.Ground.phase }, { on := 7, ground := Go.Ground.phase }, { on := 8, ground := Go.Ground.phase }, { on := 9, ground := Go.Ground.phase }, { on := 10, ground := Go.Ground.phase }, { on := 11, ground := Go.Ground.phase }, { on := 12, ground := Go.Ground.phase }, { on := 13, ground := Go.Ground.phase }, { on := 14, ground := Go.Ground.phase }], guard := none }) rfl (fun K hK => ?_) AllReadyH.nil
      rw [if_pos (by kernel_rfl)]
      have cw := HC4.out _ HF5.out
      have HW5 := Hid.of (HF5.out.own HWO.out (fun g hg hk => (HNE.out g hk).2 (Option.some.inj hg).symm))
      have tw : W5.frozen? ⟨wb, i, none⟩ = false := own_thaw HW5.out i
      go_simp
      have hst := World.ownsRow.stored HW5.out i (.slice va (ms.length + 1) vc)
      have HF6 := Hid.of (show Fr (fun k => R.wv.ownBlock = some k ∨ (Value.slice la ms.length lc).ownBlock = some k) w (W5.setCell ⟨wb, i, none⟩ (.slice va (ms.length + 1) vc)) from (HF5.out.weak (fun g hg => .inr hg)).by hst.2 (fun g hg => .inl (.inl (by rw [HWV.out]; exact hg))))
      have HW6 := Hid.of hst.1
      have HZ6 := Hid.of (show OwnZ (W5.setCell ⟨wb, i, none⟩ (.slice va (ms.length + 1) vc)) (.slice va (ms.length + 1) vc) (ms.map (·.v) ++ [Value.slice ma md.length mc]) from ((Fr.refl (fun k => k = wb) W5).by hst.2 (fun g hg => .inl (Option.some.inj hg).symm)).ownz HZ5.out (fun g hg hk => by
        have t := HZ5.out.tag hg
        rw [hk, row_tag HW5.out rfl] at t
        cases t))
      clear hst cw tw
      generalize W5.setCell ⟨wb, i, none⟩ (.slice va (ms.length + 1) vc) = W6 at *
      refine hK.out _ _ (HF6.out.weak (fun g hg => hg.imp (fun h => by rw [HWV.out] at h; exact (Option.some.inj h).symm) id)) (fun hS2 => ?_)
      clear hK K hS hS2
      refine wpAnyH_done (by kernel_rfl) ?_ _
      go_wp2
      go_end0
      refine ⟨rfl, .slice va (ms.length + 1) vc, ?_⟩
      have hcr : comeR ⟨.slice la ms.length lc, ms, sh⟩ ⟨.slice ma md.length mc, md⟩ (.slice va (ms.length + 1) vc) = ⟨.slice va (ms.length + 1) vc, ms ++ [⟨.slice ma md.length mc, md⟩], sh⟩ := by
        unfold comeR
        rw [if_pos h64]
      refine ⟨?_, absR_come HL.out, fr_lane HL.out HF6.out, fun x hx => rown_set (w := w) HL.out (l' := comeR _ _ _) (by rw [hcr]; exact HFs.out) hx, fun x hx => ?_, rfl, rfl, by simp⟩
      · rw [hcr]
        refine HN.out.lane HL.out rfl ?_ ?_ HF6.out HFs.out ?_
        · rw [wvs_set, HWV.out]
          exact HW6.out
        · simpa using HZ6.out
        · intro x hx
          have hx' : Ow w 0 x.v x.d := by
            rcases List.mem_append.1 hx with hx | hx
            · exact HN.out.ms x (List.mem_append.2 (.inl (List.mem_flatMap.2 ⟨_, get_mem HL.out, hx⟩)))
            · obtain rfl := List.mem_singleton.1 hx
              exact HM.out
          refine HF6.out.own hx' (fun g hg hk => ?_)
          have t := row_tag hx' hg
          rcases hk with hk | hk
          · rw [row_tag HN.out.wo hk] at t; cases t
          · rw [HZ.out.tag hk] at t; cases t
      · rcases hx with hx | ⟨y, hy, hx⟩
        · exact .inl (.inl hx)
        · rcases rmsgs_set hy with h1 | h1
          · rw [hcr] at h1
            rcases List.mem_append.1 h1 with h1 | h1
            · exact .inl (.inr ⟨y, List.mem_append.2 (.inl (List.mem_flatMap.2 ⟨_, get_mem HL.out, h1⟩)), hx⟩)
            · obtain rfl := List.mem_singleton.1 h1
              exact .inr (HNN.out x hx)
          · exact .inl (.inr ⟨y, h1, hx⟩)
    · rw [if_pos (by kernel_rfl)]
      go_simp
      have HU4 := Hid.of (((Up.refl w).alloc (.cells #[.slice ma md.length mc] 47)).drew)
      have HA4 := Hid.of ((at_new w 47 [.slice ma md.length mc]).up (Up.refl _).drew)
      generalize hW4 : (w.alloc (.cells #[.slice ma md.length mc] 47)).drew = W4 at *
      have HA4 : Hid (At W4 w.heap.size 47 [.slice ma md.length mc]) := by
        rw [← hW4]
        exact (at_new w 47 [.slice ma md.length mc]).up (Up.refl _).drew
      clear hW4
      refine hK.out _ _ ((Fr.refl _ _).up HU4.out) (fun hS2 => ?_)
      clear hK K hS
      have hS := hS2
      clear hS2
      refine wpAnyH_ready (rs := [11]) (by kernel_rfl) (by simp) ?_
      refine AllReadyH.cons (o := { dst := some 26, op := Go.Op.load 145 (Go.Operand.tmp 25), type := 145, pos := "ref.go:92", after := #[{ on := 10, ground := Go.Ground.data }], guard := none }) rfl (fun K hK => ?_) AllReadyH.nil
      rw [if_pos (by kernel_rfl)]
      have h0 := HC4.out _ (show Fr _ w _ from by first | exact (Fr.refl _ w).up HU4.out | exact (Fr.refl _ w).up (Up.refl w).drew)
      go_simp
      refine hK.out _ _ hS (fun hS2 => ?_)
      clear hK K hS h0
      have hS := hS2
      clear hS2
      refine wpAnyH_ready (rs := [14]) (by kernel_rfl) (by simp) ?_
      refine AllReadyH.cons (o := { dst := some 29, op := Go.Op.call { callee := Go.Callee.builtin Go.Builtin.append, args := #[Go.Operand.tmp 26, Go.Operand.tmp 28], argTypes := #[145, 145] }, type := 145, pos := "ref.go:92", after := #[{ on := 11, ground := Go.Ground.data }, { on := 13, ground := Go.Ground.data }], guard := none }) rfl (fun K hK => ?_) AllReadyH.nil
      rw [if_pos (by kernel_rfl)]
      have hz4 : OwnZ W4 (.slice la ms.length lc) (ms.map (·.v)) := (fr_of_up (fun _ => False) HU4.out).ownz HZ.out (fun _ _ h => h)
      obtain ⟨v5, W5, hap, ho5, hg5, hfr5⟩ := run_app_Z (.slice ma md.length mc) 145 hz4 ⟨w.heap.size, 0, none⟩ 1 (HA4.out.cell (i := 0) rfl) rfl (by rw [List.length_map]; omega)
      obtain ⟨va, vc, rfl⟩ := ho5.shape
      have hlv : (ms.map (·.v) ++ [Value.slice ma md.length mc]).length = ms.length + 1 := by simp
      rw [hlv] at hap ho5 hfr5
      have HF5 := Hid.of (((Fr.refl (fun k => (Value.slice la ms.length lc).ownBlock = some k) w).up HU4.out).by hg5 (fun g hg => .inl hg))
      have HZ5 := Hid.of ho5
      have HFs := Hid.of (show Frs w (.slice la ms.length lc) (.slice va (ms.length + 1) vc) from fun g hg => (hfr5 g hg).imp id (fun h => Nat.le_trans HU4.out.size h))
      clear ho5 hg5 hfr5 hlv hz4
      refine wp_app (v := .slice la ms.length lc) (y := .slice (some ⟨w.heap.size, 0, none⟩) 1 1) rfl rfl rfl hap ?_
      simp only [Act.put, List.setIfInBounds_toArray, List.set_cons_zero, List.set_cons_succ]
      refine hK.out _ _ (HF5.out.weak (fun g hg => .inr hg)) (fun hS2 => ?_)
      clear hK K hS hap
      have hS := hS2
      clear hS2
      refine wpAnyH_take (i := 15) (oi := { dst := some 30, op := Go.Op.indexAddr 111 (Go.Operand.tmp 18) (Go.Operand.tmp 19), type := 0, pos := "ref.go:92", after := #[{ on := 3, ground := Go.Ground.data }, { on := 4, ground := Go.Ground.data }, { on := 0, ground := Go.Ground.phase }, { on := 1, ground := Go.Ground.phase }, { on := 2, ground := Go.Ground.phase }, { on := 3, ground := Go.Ground.phase }, { on := 4, ground := Go.Ground.phase }, { on := 5, ground := Go.Ground.phase }, { on := 6, ground := Go.Ground.phase }, { on := 7, ground := Go.Ground.phase }, { on := 8, ground := Go.Ground.phase }, { on := 9, ground := Go.Ground.phase }, { on := 10, ground := Go.Ground.phase }, { on := 11, ground := Go.Ground.phase }, { on := 12, ground := Go.Ground.phase }, { on := 13, ground := Go.Ground.phase }, { on := 14, ground := Go.Ground.phase }], guard := none }) (v := .pointer (some ⟨wb, i, none⟩)) rfl (by kernel_rfl) (by kernel_rfl) (by kernel_rfl) (fun _ _ _ h => h) (Or.inl ⟨by kernel_rfl, ?_⟩) hS ?_
      · intro w5 hSw
        clear hSw hS
        go_simp
      simp only [Act.put, List.setIfInBounds_toArray, List.set_cons_zero, List.set_cons_succ]
      refine wpAnyH_ready (rs := [16]) (by kernel_rfl) (by simp) ?_
      refine AllReadyH.cons (o := { dst := none, op := Go.Op.store 145 (Go.Operand.tmp 30) (Go.Operand.tmp 29), type := 0, pos := "ref.go:92", after := #[{ on := 15, ground := Go.Ground.data }, { on := 14, ground := Go.Ground.data }, { on := 14, ground := Go.Ground.chain }, { on := 0, ground := Go.Ground.phase }, { on := 1, ground := Go.Ground.phase }, { on := 2, ground := Go.Ground.phase }, { on := 3, ground := Go.Ground.phase }, { on := 4, ground := Go.Ground.phase }, { on := 5, ground := Go.Ground.phase }, { on := 6, ground := Go.Ground.phase }, { on := 7, ground := Go.Ground.phase }, { on := 8, ground := Go.Ground.phase }, { on := 9, ground := Go.Ground.phase }, { on := 10, ground := Go.Ground.phase }, { on := 11, ground := Go.Ground.phase }, { on := 12, ground := Go.Ground.phase }, { on := 13, ground := Go.Ground.phase }, { on := 14, ground := Go.Ground.phase }], guard := none }) rfl (fun K hK => ?_) AllReadyH.nil
      rw [if_pos (by kernel_rfl)]
      have cw := HC4.out _ HF5.out
      have HW5 := Hid.of (HF5.out.own HWO.out (fun g hg hk => (HNE.out g hk).2 (Option.some.inj hg).symm))
      have tw : W5.frozen? ⟨wb, i, none⟩ = false := own_thaw HW5.out i
      go_simp
      have hst := World.ownsRow.stored HW5.out i (.slice va (ms.length + 1) vc)
      have HF6 := Hid.of (show Fr (fun k => R.wv.ownBlock = some k ∨ (Value.slice la ms.length lc).ownBlock = some k) w (W5.setCell ⟨wb, i, none⟩ (.slice va (ms.length + 1) vc)) from (HF5.out.weak (fun g hg => .inr hg)).by hst.2 (fun g hg => .inl (.inl (by rw [HWV.out]; exact hg))))
      have HW6 := Hid.of hst.1
      have HZ6 := Hid.of (show OwnZ (W5.setCell ⟨wb, i, none⟩ (.slice va (ms.length + 1) vc)) (.slice va (ms.length + 1) vc) (ms.map (·.v) ++ [Value.slice ma md.length mc]) from ((Fr.refl (fun k => k = wb) W5).by hst.2 (fun g hg => .inl (Option.some.inj hg).symm)).ownz HZ5.out (fun g hg hk => by
        have t := HZ5.out.tag hg
        rw [hk, row_tag HW5.out rfl] at t
        cases t))
      clear hst cw tw
      generalize W5.setCell ⟨wb, i, none⟩ (.slice va (ms.length + 1) vc) = W6 at *
      refine hK.out _ _ (HF6.out.weak (fun g hg => hg.imp (fun h => by rw [HWV.out] at h; exact (Option.some.inj h).symm) id)) (fun hS2 => ?_)
      clear hK K hS hS2
      refine wpAnyH_done (by kernel_rfl) ?_ _
      go_wp2
      go_end0
      refine ⟨rfl, .slice va (ms.length + 1) vc, ?_⟩
      have hcr : comeR ⟨.slice la ms.length lc, ms, sh⟩ ⟨.slice ma md.length mc, md⟩ (.slice va (ms.length + 1) vc) = ⟨.slice va (ms.length + 1) vc, ms ++ [⟨.slice ma md.length mc, md⟩], sh⟩ := by
        unfold comeR
        rw [if_pos h64]
      refine ⟨?_, absR_come HL.out, fr_lane HL.out HF6.out, fun x hx => rown_set (w := w) HL.out (l' := comeR _ _ _) (by rw [hcr]; exact HFs.out) hx, fun x hx => ?_, rfl, rfl, by simp⟩
      · rw [hcr]
        refine HN.out.lane HL.out rfl ?_ ?_ HF6.out HFs.out ?_
        · rw [wvs_set, HWV.out]
          exact HW6.out
        · simpa using HZ6.out
        · intro x hx
          have hx' : Ow w 0 x.v x.d := by
            rcases List.mem_append.1 hx with hx | hx
            · exact HN.out.ms x (List.mem_append.2 (.inl (List.mem_flatMap.2 ⟨_, get_mem HL.out, hx⟩)))
            · obtain rfl := List.mem_singleton.1 hx
              exact HM.out
          refine HF6.out.own hx' (fun g hg hk => ?_)
          have t := row_tag hx' hg
          rcases hk with hk | hk
          · rw [row_tag HN.out.wo hk] at t; cases t
          · rw [HZ.out.tag hk] at t; cases t
      · rcases hx with hx | ⟨y, hy, hx⟩
        · exact .inl (.inl hx)
        · rcases rmsgs_set hy with h1 | h1
          · rw [hcr] at h1
            rcases List.mem_append.1 h1 with h1 | h1
            · exact .inl (.inr ⟨y, List.mem_append.2 (.inl (List.mem_flatMap.2 ⟨_, get_mem HL.out, h1⟩)), hx⟩)
            · obtain rfl := List.mem_singleton.1 h1
              exact .inr (HNN.out x hx)
          · exact .inl (.inr ⟨y, h1, hx⟩)
  · have h64z : ¬ (ms.length : Int) < 64 := by omega
    go_enter Try.func77, Try.ntmps77
    go_wp2
    go_end0
    refine ⟨rfl, nilS, ?_⟩
    have hcr : comeR ⟨.slice la ms.length lc, ms, sh⟩ ⟨.slice ma md.length mc, md⟩ nilS = ⟨.slice la ms.length lc, ms, sh⟩ := by
      unfold comeR
      rw [if_neg h64]
    have e2 : wWs R i ⟨.slice la ms.length lc, ms, sh⟩ = R := by
      show { R with ws := R.ws.set i _ } = R
      rw [set_same' HL.out]
    have hab := absR_come (m := ⟨.slice ma md.length mc, md⟩) (v' := nilS) HL.out
    rw [hcr, e2] at hab
    rw [hcr, e2, ← hab]
    exact RStp.refl HN.out
end Go.Proofs.Ytdlfkdehfenemaa
namespace Go.Proofs.Ytdlfkdehfenemaa
open Go.RowKit Go.Conc TextNum
theorem infoLate : (Try.prog.info? 148).map (fun i => (i.zero, i.size, i.bytes)) = some (some (.agg #[.int .i64 0, .int .i64 0, .slice none 0 0]), 3, 40) := by kernel_rfl
def isR (R : RS) (z : Int) : Bool := decide (0 ≤ z) && decide (z < (R.ws.length : Int))
set_option maxRecDepth 100000 in
theorem Ris_walk (w : World) (R : RS) (z : Int) (h : ROk w R) : Calls Try.prog 75 #[.pointer (some ⟨R.nb, 0, none⟩), .int .i64 z] w fun e w' => e = .returned (.bool (isR R z)) ∧ w' = w := by
  have c3 := h.net.cell (i := 3) rfl
  obtain ⟨wa, wc, hwv⟩ := row_len h.wo
  rw [hwv] at c3
  clear h
  by_cases h0 : 0 ≤ z
  · go_enter Try.func75, Try.ntmps75
    go_wp2
    go_ret
    refine ⟨?_, rfl⟩
    simp [isR, h0]
  · go_enter Try.func75, Try.ntmps75
    go_wp2
    go_ret
    refine ⟨?_, rfl⟩
    simp [isR]
    omega
theorem isR_nat {R : RS} {i : Nat} {l : RC} (hl : R.ws[i]? = some l) : isR R (i : Int) = true := by
  have hi := (List.getElem?_eq_some_iff.1 hl).1
  simp [isR]; omega
set_option maxRecDepth 100000 in
set_option maxHeartbeats 1000000 in
theorem Rcopied_walk (w : World) (v : Value) (ds : List UInt8) (hd : Sb w v ds) (hl : ds.length ≤ 1099511627776) :
    Calls Try.prog 76 #[v] w fun e w' => ∃ v', e = .returned v' ∧ Ow w' w.heap.size v' ds ∧ Up w w' := by
  obtain ⟨a, c, rfl, hc, _⟩ := id hd
  have HD := Hid.of hd
  clear hd
  obtain ⟨i8, i8a, i8b, i8c, i8d⟩ := info_parts Try.infoU8
  obtain ⟨n, hn⟩ : ∃ n, ds.length = n := ⟨_, rfl⟩
  have HNN := Hid.of (And.intro hn trivial)
  rw [hn] at hc hl ⊢
  clear hn
  go_enter Try.func76, Try.ntmps76
  go_wp2
  go_loopw [3, 4] (fun v3 v4 wr => ∃ j : Nat, v4 = .int .i64 (j : Int) ∧ j ≤ n ∧ Hid (wr.ownsRow w.heap.size 5 1 v3 j (cb (ds.take j)) ∧ Up w wr)) (fun _ v4 _ => n - (intOf v4).toNat)
  case atStart => exact ⟨0, rfl, by omega, Hid.of ⟨World.ownsRow_nil _ _ _ _, Up.refl _⟩⟩
  case round =>
    obtain ⟨j, rfl, hj, hR⟩ := hrel
    obtain ⟨va, vc, rfl⟩ := row_len hR.out.1
    by_cases hlt : j < n
    · have hltz : (j : Int) < (n : Int) := by omega
      have hjl : j < ds.length := by rw [HNN.out.1]; exact hlt
      obtain ⟨b, off, rfl, kc, _⟩ := (HD.out.up hR.out.2).cell hjl
      have hcz : (n : Int) ≤ (c : Int) := by omega
      obtain ⟨y, hy⟩ : ∃ y, ds[j] = y := ⟨_, rfl⟩
      rw [hy] at kc
      have hjw : IntKind.i64.wrap ((j : Int) + 1) = (j : Int) + 1 := by rw [IntKind.wrap_i64]; omega
      have HTK := Hid.of (And.intro (show ds.take (j + 1) = ds.take j ++ [y] by rw [List.take_succ_eq_append_getElem hjl, hy]) trivial)
      have HR := Hid.of hR.out
      clear hR hy hjl
      have HU2 := Hid.of ((Up.refl wr).alloc (.cells #[.int .u8 (y.toNat : Int)] 5))
      have HA2 := Hid.of (at_new wr 5 [.int .u8 (y.toNat : Int)])
      go_wp2_with (with_reducible show wpList _ _ _ ({ dst := _, op := Op.call { callee := Callee.builtin Builtin.append, args := _, argTypes := _ }, type := _, pos := _, after := _, guard := _ } :: _) _ _; refine Shut.out ?_)
      show wpList _ _ _ _ _ _
      generalize hW2 : wr.alloc (.cells #[.int .u8 (y.toNat : Int)] 5) = W2 at *
      refine wpList_append_own _ rfl _ _ 47 rfl w.heap.size 5 i8 (.int .u8 0) 1 1 Try.underlying47 i8a i8b i8c i8d rfl (by decide) _ j _ rfl (ow_up HR.out.1 HU2.out) ⟨wr.heap.size, 0, none⟩ 1 1 [.int .u8 (y.toNat : Int)] rfl rfl (fun j u hu => by rw [Addr.add_lit, Nat.zero_add]; exact HA2.out.cell hu) (fun u hu => by obtain rfl := List.mem_singleton.1 hu; rfl) (by simp only [maxLen]; omega) (by omega) (HR.out.2.trans HU2.out).size ?_
      intro v4 w4 o4 g4 _
      have HN := Hid.of (show w4.ownsRow w.heap.size 5 1 v4 (j + 1) (cb (ds.take (j + 1))) ∧ Up w w4 from ⟨by
        rw [HTK.out.1, cb_append]
        exact o4, (HR.out.2.trans HU2.out).by g4 (fun g hg => (HR.out.1.lt g hg).1)⟩)
      clear o4 g4 HR HU2 HA2 hW2
      simp only [Act.put, List.setIfInBounds_toArray, List.set_cons_zero, List.set_cons_succ]
      go_wp2
      go_roundw
      case rel => exact ⟨j + 1, by simp, by omega, HN⟩
      case measure => simp [intOf]; omega
    · have hltz : ¬ (j : Int) < (n : Int) := by omega
      obtain rfl : j = n := by omega
      have HR := Hid.of (show Ow wr w.heap.size (.slice va j vc) ds ∧ Up w wr from ⟨by
        have := hR.out.1
        rw [List.take_of_length_le (by rw [HNN.out.1]; exact Nat.le_refl _)] at this
        unfold Ow
        rw [HNN.out.1]
        exact this, hR.out.2⟩)
      clear hR
      go_wp2
      go_ret
      exact ⟨_, rfl, HR.out⟩
/-- one more is on its way -/
abbrev wLv (R : RS) (p : PC) (v' : Value) : RS := { R with lv := v', pd := R.pd ++ [p] }
theorem ROk.later {w w' : World} {R : RS} (h : ROk w R) (p : PC) (v' : Value) (hA : At w' R.nb 114 (rcl (wLv R p v'))) (hr : w'.ownsRow 0 148 3 v' (R.pd ++ [p]).length ((R.pd ++ [p]).flatMap lcl))
    (hf : Fr (fun k => k = R.nb ∨ R.lv.ownBlock = some k) w w') (hm : Ow w 0 p.m.v p.m.d) : ROk w' (wLv R p v') := by
  have no : ∀ k t, otag w k = some t → t ≠ 114 → t ≠ 148 → ¬ (k = R.nb ∨ R.lv.ownBlock = some k) := by
    intro k t ht h1 h2 hk
    rcases hk with rfl | hk
    · rw [h.net.tag] at ht; exact h1 (Option.some.inj ht).symm
    · rw [row_tag h.lo hk] at ht; exact h2 (Option.some.inj ht).symm
  refine ⟨hA, hf.own h.ft (fun g hg => no g _ (row_tag h.ft hg) (by decide) (by decide)), hf.own h.wo (fun g hg => no g _ (row_tag h.wo hg) (by decide) (by decide)), hf.own h.so (fun g hg => no g _ (row_tag h.so hg) (by decide) (by decide)), hr,
    fun l hl => hf.ownz (h.rw l hl) (fun g hg => no g _ ((h.rw l hl).tag hg) (by decide) (by decide)), h.dis, fun m hm2 => ?_⟩
  have hx : Ow w 0 m.v m.d := by
    unfold rmsgs at hm2
    rcases List.mem_append.1 hm2 with h1 | h1
    · exact h.ms m (List.mem_append.2 (.inl h1))
    · rw [List.map_append] at h1
      rcases List.mem_append.1 h1 with h1 | h1
      · exact h.ms m (List.mem_append.2 (.inr h1))
      · obtain rfl : m = p.m := by simpa using h1
        exact hm
  exact hf.own hx (fun g hg => no g _ (row_tag hx hg) (by decide) (by decide))
theorem lcl_len (l : List PC) : (l.flatMap lcl).length = l.length * 3 := by
  induction l with
  | nil => rfl
  | cons p r ih => simp only [List.flatMap_cons, List.length_append, ih, List.length_cons, lcl, List.length_nil]; omega
theorem absR_later (R : RS) (p : PC) (v' : Value) (n : Nat) (i : Nat) (m : Msg) (hp : p = ⟨R.now + n, i, m⟩) (hn : n ≠ 0) : absR (wLv R p v') = postA (absR R) i m.d n := by
  subst hp
  unfold postA absR
  rw [if_neg hn]
  simp [absP]
set_option maxRecDepth 100000 in
set_option maxHeartbeats 1000000 in
theorem Rlater_walk (w : World) (R : RS) (i n : Nat) (l : RC) (m : Msg) (h : ROk w R) (hl : R.ws[i]? = some l) (hm : Ow w 0 m.v m.d) {N : Nat} (hN : ∀ k, m.v.ownBlock = some k → N ≤ k) (hnow : R.now ≤ 2305843009213693952) (hn : n ≤ 1000) (hpd : R.pd.length ≤ 1099511627776) :
    Calls Try.prog 78 #[.pointer (some ⟨R.nb, 0, none⟩), .int .i64 (i : Int), m.v, .int .i64 (n : Int)] w fun e w' => e = .returned (.tuple #[]) ∧ ∃ R', RStp N w w' R R' (postA (absR R) i m.d n) ∧ R'.pd.length ≤ R.pd.length + 1 ∧ R'.st = R.st := by
  by_cases h0 : n = 0
  · subst h0
    have hC := Rcome_walk w R i l m h hl hm hN
    go_enter Try.func78, Try.ntmps78
    go_wp2_with fail
    refine hC.mono ?_
    rintro e w1 ⟨rfl, v', h1⟩
    have H1 := Hid.of h1
    clear hC h1
    dsimp only
    go_wp2
    refine bodyPost_ret (results_none rfl _ _ _) rfl ?_
    refine ⟨rfl, wWs R i (comeR l m v'), ?_, Nat.le_succ _, rfl⟩
    rw [postA, if_pos rfl]
    exact H1.out
  · have hnz : ((n : Int) == 0) = false := by simp; omega
    have hnz2 : ¬ ((n : Int) = 0) := by omega
    have c0 := h.net.cell (i := 0) rfl
    have c5 := h.net.cell (i := 5) rfl
    obtain ⟨la, lk, lc, hlv⟩ := row_any h.lo
    rw [hlv] at c5
    have hw1 : IntKind.i64.wrap ((R.now : Int) + (n : Int)) = (R.now : Int) + (n : Int) := by rw [IntKind.wrap_i64]; omega
    obtain ⟨i0, hi0, hz0, hz1, hz2⟩ := info_parts infoLate
    obtain ⟨mv, md⟩ := m
    dsimp only at hm hN ⊢
    obtain ⟨ma, mc, rfl, _⟩ := Ow.sb hm
    have HLV := Hid.of hlv
    have HC0 := Hid.of (show ∀ w5, Up w w5 → w5.cell? ⟨R.nb, 0, none⟩ = some (.int .i64 (R.now : Int)) from fun w5 hu => hu.cell c0)
    have HC5 := Hid.of (show ∀ w5, Up w w5 → w5.cell? ⟨R.nb, 5, none⟩ = some (.slice la lk lc) from fun w5 hu => hu.cell c5)
    have HN := Hid.of h
    have HM := Hid.of hm
    have HL := Hid.of hl
    have HNN := Hid.of hN
    have HH0 := Hid.of h0
    have hlo := h.lo
    rw [hlv] at hlo
    have HLO := Hid.of hlo
    clear h hm hl hN hlv c0 c5 hlo h0
    go_enter Try.func78, Try.ntmps78
    go_wp2
    refine wp_region_held_drew (S := fun w2 => Fr (fun k => k = R.nb ∨ (Value.slice la lk lc).ownBlock = some k) w w2) (by kernel_rfl) ((Fr.refl _ _).up (Up.refl _).drew) (fun hS => ?_)
    refine wpAnyH_take (i := 0) (oi := { dst := some 14, op := Go.Op.move (Go.Operand.tmp 0), type := 35, pos := "ref.go:111", after := #[], guard := none }) (v := .pointer (some ⟨R.nb, 0, none⟩)) rfl (by kernel_rfl) (by kernel_rfl) (by kernel_rfl) (fun _ _ _ h => h) (Or.inl ⟨by kernel_rfl, ?_⟩) hS ?_
    · intro w5 hSw
      clear hSw hS
      go_simp
    simp only [Act.put, List.setIfInBounds_toArray, List.set_cons_zero, List.set_cons_succ]
    refine wpAnyH_take (i := 1) (oi := { dst := some 15, op := Go.Op.move (Go.Operand.tmp 0), type := 35, pos := "ref.go:111", after := #[], guard := none }) (v := .pointer (some ⟨R.nb, 0, none⟩)) rfl (by kernel_rfl) (by kernel_rfl) (by kernel_rfl) (fun _ _ _ h => h) (Or.inl ⟨by kernel_rfl, ?_⟩) hS ?_
    · intro w5 hSw
      clear hSw hS
      go_simp
    simp only [Act.put, List.setIfInBounds_toArray, List.set_cons_zero, List.set_cons_succ]
    refine wpAnyH_take (i := 2) (oi := { dst := some 16, op := Go.Op.nilCheck (Go.Operand.tmp 15), type := 0, pos := "ref.go:111", after := #[{ on := 1, ground := Go.Ground.data }], guard := none }) (v := .pointer (some ⟨R.nb, 0, none⟩)) rfl (by kernel_rfl) (by kernel_rfl) (by kernel_rfl) (fun _ _ _ h => h) (Or.inl ⟨by kernel_rfl, ?_⟩) hS ?_
    · intro w5 hSw
      clear hSw hS
      go_simp
    simp only [Act.put, List.setIfInBounds_toArray, List.set_cons_zero, List.set_cons_succ]
    refine wpAnyH_take (i := 3) (oi := { dst := some 17, op := Go.Op.fieldAddr 114 (Go.Operand.tmp 16) 5, type := 0, pos := "ref.go:111", after := #[{ on := 2, ground := Go.Ground.data }], guard := none }) (v := .pointer (some ⟨R.nb, 5, none⟩)) rfl (by kernel_rfl) (by kernel_rfl) (by kernel_rfl) (fun _ _ _ h => h) (Or.inl ⟨by kernel_rfl, ?_⟩) hS ?_
    · intro w5 hSw
      clear hSw hS
      go_simp
    simp only [Act.put, List.setIfInBounds_toArray, List.set_cons_zero, List.set_cons_succ]
    refine wpAnyH_take (i := 5) (oi := { dst := some 19, op := Go.Op.move (Go.Operand.tmp 0), type := 35, pos := "ref.go:111", after := #[], guard := none }) (v := .pointer (some ⟨R.nb, 0, none⟩)) rfl (by kernel_rfl) (by kernel_rfl) (by kernel_rfl) (fun _ _ _ h => h) (Or.inl ⟨by kernel_rfl, ?_⟩) hS ?_
    · intro w5 hSw
      clear hSw hS
      go_simp
    simp only [Act.put, List.setIfInBounds_toArray, List.set_cons_zero, List.set_cons_succ]
    refine wpAnyH_take (i := 6) (oi := { dst := some 20, op := Go.Op.nilCheck (Go.Operand.tmp 19), type := 0, pos := "ref.go:111", after := #[{ on := 5, ground := Go.Ground.data }], guard := none }) (v := .pointer (some ⟨R.nb, 0, none⟩)) rfl (by kernel_rfl) (by kernel_rfl) (by kernel_rfl) (fun _ _ _ h => h) (Or.inl ⟨by kernel_rfl, ?_⟩) hS ?_
    · intro w5 hSw
      clear hSw hS
      go_simp
    simp only [Act.put, List.setIfInBounds_toArray, List.set_cons_zero, List.set_cons_succ]
    refine wpAnyH_take (i := 7) (oi := { dst := some 21, op := Go.Op.fieldAddr 114 (Go.Operand.tmp 20) 0, type := 0, pos := "ref.go:111", after := #[{ on := 6, ground := Go.Ground.data }], guard := none }) (v := .pointer (some ⟨R.nb, 0, none⟩)) rfl (by kernel_rfl) (by kernel_rfl) (by kernel_rfl) (fun _ _ _ h => h) (Or.inl ⟨by kernel_rfl, ?_⟩) hS ?_
    · intro w5 hSw
      clear hSw hS
      go_simp
    simp only [Act.put, List.setIfInBounds_toArray, List.set_cons_zero, List.set_cons_succ]
    refine wpAnyH_take (i := 9) (oi := { dst := some 23, op := Go.Op.move (Go.Operand.tmp 3), type := 3, pos := "ref.go:111", after := #[], guard := none }) (v := .int .i64 (n : Int)) rfl (by kernel_rfl) (by kernel_rfl) (by kernel_rfl) (fun _ _ _ h => h) (Or.inl ⟨by kernel_rfl, ?_⟩) hS ?_
    · intro w5 hSw
      clear hSw hS
      go_simp
    simp only [Act.put, List.setIfInBounds_toArray, List.set_cons_zero, List.set_cons_succ]
    refine wpAnyH_take (i := 11) (oi := { dst := some 25, op := Go.Op.move (Go.Operand.tmp 1), type := 3, pos := "ref.go:111", after := #[], guard := none }) (v := .int .i64 (i : Int)) rfl (by kernel_rfl) (by kernel_rfl) (by kernel_rfl) (fun _ _ _ h => h) (Or.inl ⟨by kernel_rfl, ?_⟩) hS ?_
    · intro w5 hSw
      clear hSw hS
      go_simp
    simp only [Act.put, List.setIfInBounds_toArray, List.set_cons_zero, List.set_cons_succ]
    refine wpAnyH_take (i := 12) (oi := { dst := some 26, op := Go.Op.move (Go.Operand.tmp 2), type := 47, pos := "ref.go:111", after := #[], guard := none }) (v := .slice ma md.length mc) rfl (by kernel_rfl) (by kernel_rfl) (by kernel_rfl) (fun _ _ _ h => h) (Or.inl ⟨by kernel_rfl, ?_⟩) hS ?_
    · intro w5 hSw
      clear hSw hS
      go_simp
    simp only [Act.put, List.setIfInBounds_toArray, List.set_cons_zero, List.set_cons_succ]
    refine wpAnyH_ready (rs := [4, 8]) (by kernel_rfl) (by simp) ?_
    refine AllReadyH.cons (o := { dst := some 18, op := Go.Op.load 112 (Go.Operand.tmp 17), type := 112, pos := "ref.go:111", after := #[{ on := 3, ground := Go.Ground.data }], guard := none }) rfl (fun K hK => ?_) (AllReadyH.cons (o := { dst := some 22, op := Go.Op.load 3 (Go.Operand.tmp 21), type := 3, pos := "ref.go:111", after := #[{ on := 7, ground := Go.Ground.data }], guard := none }) rfl (fun K hK => ?_) (AllReadyH.nil))
    · rw [if_pos (by kernel_rfl)]
      have h0 := HC5.out _ (show Up w _ from by first | exact HU4.out | exact (Up.refl w).drew)
      go_simp
      refine hK.out _ _ hS (fun hS2 => ?_)
      clear hK K hS h0
      have hS := hS2
      clear hS2
      refine wpAnyH_ready (rs := [8]) (by kernel_rfl) (by simp) ?_
      refine AllReadyH.cons (o := { dst := some 22, op := Go.Op.load 3 (Go.Operand.tmp 21), type := 3, pos := "ref.go:111", after := #[{ on := 7, ground := Go.Ground.data }], guard := none }) rfl (fun K hK => ?_) AllReadyH.nil
      rw [if_pos (by kernel_rfl)]
      have h0 := HC0.out _ (show Up w _ from by first | exact HU4.out | exact (Up.refl w).drew)
      go_simp
      refine hK.out _ _ hS (fun hS2 => ?_)
      clear hK K hS h0
      have hS := hS2
      clear hS2
      refine wpAnyH_take (i := 10) (oi := { dst := some 24, op := Go.Op.binOp Go.BinOp.add 3 (Go.Operand.tmp 22) (Go.Operand.tmp 23) 3, type := 3, pos := "ref.go:111", after := #[{ on := 8, ground := Go.Ground.data }, { on := 9, ground := Go.Ground.data }], guard := none }) (v := .int .i64 ((R.now : Int) + (n : Int))) rfl (by kernel_rfl) (by kernel_rfl) (by kernel_rfl) (fun _ _ _ h => h) (Or.inl ⟨by kernel_rfl, ?_⟩) hS ?_
      · intro w5 hSw
        clear hSw hS
        go_simp
      simp only [Act.put, List.setIfInBounds_toArray, List.set_cons_zero, List.set_cons_succ]
      refine wpAnyH_take (i := 13) (oi := { dst := some 27, op := Go.Op.build 148 #[(0, Go.Operand.tmp 24), (1, Go.Operand.tmp 25), (2, Go.Operand.tmp 26)], type := 148, pos := "ref.go:111", after := #[{ on := 10, ground := Go.Ground.data }, { on := 11, ground := Go.Ground.data }, { on := 12, ground := Go.Ground.data }], guard := none }) (v := .agg #[.int .i64 ((R.now : Int) + (n : Int)), .int .i64 (i : Int), .slice ma md.length mc]) rfl (by kernel_rfl) (by kernel_rfl) (by kernel_rfl) (fun _ _ _ h => h) (Or.inl ⟨by kernel_rfl, ?_⟩) hS ?_
      · intro w5 hSw
        clear hSw hS
        go_simp
      simp only [Act.put, List.setIfInBounds_toArray, List.set_cons_zero, List.set_cons_succ]
      refine wpAnyH_ready (rs := [14]) (by kernel_rfl) (by simp) ?_
      refine AllReadyH.cons (o := { dst := some 28, op := Go.Op.buildSlice 112 1 #[(0, Go.Operand.tmp 27)], type := 112, pos := "ref.go:111", after := #[{ on := 13, ground := Go.Ground.data }], guard := none }) rfl (fun K hK => ?_) AllReadyH.nil
      rw [if_pos (by kernel_rfl)]
      go_simp
      have HU4 := Hid.of (((Up.refl w).alloc (.cells #[.int .i64 ((R.now : Int) + (n : Int)), .int .i64 (i : Int), .slice ma md.length mc] 148)).drew)
      generalize hW4 : (w.alloc (.cells #[.int .i64 ((R.now : Int) + (n : Int)), .int .i64 (i : Int), .slice ma md.length mc] 148)).drew = W4 at *
      have HA4 : Hid (At W4 w.heap.size 148 [.int .i64 ((R.now : Int) + (n : Int)), .int .i64 (i : Int), .slice ma md.length mc]) := by
        rw [← hW4]
        exact (at_new w 148 [.int .i64 ((R.now : Int) + (n : Int)), .int .i64 (i : Int), .slice ma md.length mc]).up (Up.refl _).drew
      clear hW4
      refine hK.out _ _ ((Fr.refl _ _).up HU4.out) (fun hS2 => ?_)
      clear hK K hS
      have hS := hS2
      clear hS2
      refine wpAnyH_ready (rs := [15]) (by kernel_rfl) (by simp) ?_
      refine AllReadyH.cons (o := { dst := some 29, op := Go.Op.call { callee := Go.Callee.builtin Go.Builtin.append, args := #[Go.Operand.tmp 18, Go.Operand.tmp 28], argTypes := #[112, 112] }, type := 112, pos := "ref.go:111", after := #[{ on := 4, ground := Go.Ground.data }, { on := 14, ground := Go.Ground.data }], guard := none }) rfl (fun K hK => ?_) AllReadyH.nil
      rw [if_pos (by kernel_rfl)]
      obtain ⟨v5, W5, hap, ho5, hg5, hfr5⟩ := run_append_frsN (P := Try.prog) W4 0 112 112 148 i0 (.agg #[.int .i64 0, .int .i64 0, nilS]) 3 40 Try.underlying112 hi0 hz0 hz1 hz2 rfl (by decide) (.slice la lk lc) _ _ (ow_up HLO.out HU4.out) ⟨w.heap.size, 0, none⟩ 1 1 [.int .i64 ((R.now : Int) + (n : Int)), .int .i64 (i : Int), .slice ma md.length mc] rfl (fun j u hu => by rw [Addr.add_lit, Nat.zero_add]; exact HA4.out.cell hu) (fun u hu => by
        simp only [List.mem_cons, List.not_mem_nil, or_false] at hu
        rcases hu with rfl | rfl | rfl <;> rfl) (by simp only [maxLen]; omega) (by omega) (Nat.zero_le _)
      obtain ⟨va, vk, vc, rfl⟩ := row_any ho5
      have HF5 := Hid.of (((Fr.refl (fun k => (Value.slice la lk lc).ownBlock = some k) w).up HU4.out).by hg5 (fun g hg => .inl hg))
      have HO5 := Hid.of ho5
      have HFs := Hid.of (show Frs w (.slice la lk lc) (.slice va vk vc) from fun g hg => (hfr5 g hg).imp id (fun h => Nat.le_trans HU4.out.size h))
      clear ho5 hg5 hfr5
      refine wp_app (v := .slice la lk lc) (y := .slice (some ⟨w.heap.size, 0, none⟩) 1 1) rfl rfl rfl hap ?_
      simp only [Act.put, List.setIfInBounds_toArray, List.set_cons_zero, List.set_cons_succ]
      refine hK.out _ _ (HF5.out.weak (fun g hg => .inr hg)) (fun hS2 => ?_)
      clear hK K hS hap
      have hS := hS2
      clear hS2
      refine wpAnyH_take (i := 16) (oi := { dst := some 30, op := Go.Op.nilCheck (Go.Operand.tmp 14), type := 0, pos := "ref.go:111", after := #[{ on := 0, ground := Go.Ground.data }, { on := 0, ground := Go.Ground.phase }, { on := 1, ground := Go.Ground.phase }, { on := 2, ground := Go.Ground.phase }, { on := 3, ground := Go.Ground.phase }, { on := 4, ground := Go.Ground.phase }, { on := 5, ground := Go.Ground.phase }, { on := 6, ground := Go.Ground.phase }, { on := 7, ground := Go.Ground.phase }, { on := 8, ground := Go.Ground.phase }, { on := 9, ground := Go.Ground.phase }, { on := 10, ground := Go.Ground.phase }, { on := 11, ground := Go.Ground.phase }, { on := 12, ground := Go.Ground.phase }, { on := 13, ground := Go.Ground.phase }, { on := 14, ground := Go.Ground.phase }, { on := 15, ground := Go.Ground.phase }], guard := none }) (v := .pointer (some ⟨R.nb, 0, none⟩)) rfl (by kernel_rfl) (by kernel_rfl) (by kernel_rfl) (fun _ _ _ h => h) (Or.inl ⟨by kernel_rfl, ?_⟩) hS ?_
      · intro w5 hSw
        clear hSw hS
        go_simp
      simp only [Act.put, List.setIfInBounds_toArray, List.set_cons_zero, List.set_cons_succ]
      refine wpAnyH_take (i := 17) (oi := { dst := some 31, op := Go.Op.fieldAddr 114 (Go.Operand.tmp 30) 5, type := 0, pos := "ref.go:111", after := #[{ on := 16, ground := Go.Ground.data }, { on := 0, ground := Go.Ground.phase }, { on := 1, ground := Go.Ground.phase }, { on := 2, ground := Go.Ground.phase }, { on := 3, ground := Go.Ground.phase }, { on := 4, ground := Go.Ground.phase }, { on := 5, ground := Go.Ground.phase }, { on := 6, ground := Go.Ground.phase }, { on := 7, ground := Go.Ground.phase }, { on := 8, ground := Go.Ground.phase }, { on := 9, ground := Go.Ground.phase }, { on := 10, ground := Go.Ground.phase }, { on := 11, ground := Go.Ground.phase }, { on := 12, ground := Go.Ground.phase }, { on := 13, ground := Go.Ground.phase }, { on := 14, ground := Go.Ground.phase }, { on := 15, ground := Go.Ground.phase }], guard := none }) (v := .pointer (some ⟨R.nb, 5, none⟩)) rfl (by kernel_rfl) (by kernel_rfl) (by kernel_rfl) (fun _ _ _ h => h) (Or.inl ⟨by kernel_rfl, ?_⟩) hS ?_
      · intro w5 hSw
        clear hSw hS
        go_simp
      simp only [Act.put, List.setIfInBounds_toArray, List.set_cons_zero, List.set_cons_succ]
      refine wpAnyH_ready (rs := [18]) (by kernel_rfl) (by simp) ?_
      refine AllReadyH.cons (o := { dst := none, op := Go.Op.store 112 (Go.Operand.tmp 31) (Go.Operand.tmp 29), type := 0, pos := "ref.go:111", after := #[{ on := 17, ground := Go.Ground.data }, { on := 15, ground := Go.Ground.data }, { on := 15, ground := Go.Ground.chain }, { on := 0, ground := Go.Ground.phase }, { on := 1, ground := Go.Ground.phase }, { on := 2, ground := Go.Ground.phase }, { on := 3, ground := Go.Ground.phase }, { on := 4, ground := Go.Ground.phase }, { on := 5, ground := Go.Ground.phase }, { on := 6, ground := Go.Ground.phase }, { on := 7, ground := Go.Ground.phase }, { on := 8, ground := Go.Ground.phase }, { on := 9, ground := Go.Ground.phase }, { on := 10, ground := Go.Ground.phase }, { on := 11, ground := Go.Ground.phase }, { on := 12, ground := Go.Ground.phase }, { on := 13, ground := Go.Ground.phase }, { on := 14, ground := Go.Ground.phase }, { on := 15, ground := Go.Ground.phase }], guard := none }) rfl (fun K hK => ?_) AllReadyH.nil
      rw [if_pos (by kernel_rfl)]
      have hA5 : At W5 R.nb 114 (rcl R) := HF5.out.at HN.out.net (fun e => by
        have t := row_tag HLO.out e
        rw [HN.out.net.tag] at t; cases t)
      have cw := hA5.cell (i := 5) rfl
      have tw := hA5.thaw 5
      have hA6 := hA5.set 5 (.slice va vk vc)
      simp only [List.set_cons_zero, List.set_cons_succ] at hA6
      have hg6 := grown_at W5 R.nb 5 (.slice va vk vc)
      have HA6 := Hid.of hA6
      have HF6 := Hid.of (show Fr (fun k => k = R.nb ∨ R.lv.ownBlock = some k) w (W5.setCell ⟨R.nb, 5, none⟩ (.slice va vk vc)) from (HF5.out.weak (fun g hg => .inr (by rw [HLV.out]; exact hg))).by hg6 (fun g hg => .inl (.inl (Option.some.inj hg).symm)))
      have HO6 := Hid.of (World.ownsRow.kept HO5.out hg6 (.inr (own_ne HO5.out hA5 (by decide))))
      go_simp
      clear hA5 cw tw hA6 hg6
      generalize W5.setCell ⟨R.nb, 5, none⟩ (.slice va vk vc) = W6 at *
      refine hK.out _ _ (HF6.out.weak (fun g hg => hg.imp id (fun h => by rw [HLV.out] at h; exact h))) (fun hS2 => ?_)
      clear hK K hS hS2
      refine wpAnyH_done (by kernel_rfl) ?_ _
      go_wp2
      go_end0
      have hst : RStp N w W6 R (wLv R ⟨R.now + n, i, ⟨.slice ma md.length mc, md⟩⟩ (.slice va vk vc)) (postA (absR R) i md n) := by
        refine ⟨HN.out.later _ _ HA6.out ?_ HF6.out HM.out, absR_later R _ _ n i ⟨_, md⟩ rfl HH0.out, HF6.out.weak (fun g hg => ?_), fun x hx => ?_, fun x hx => ?_, rfl, rfl, rfl⟩
        · rw [List.flatMap_append, List.length_append]
          have := HO6.out
          rw [show (R.now : Int) + (n : Int) = ((R.now + n : Nat) : Int) by omega] at this
          exact this
        · rcases hg with rfl | hg
          · exact .inl rfl
          · exact .inr (.inr (.inr (.inl hg)))
        · rcases hx with hx | hx | hx | hx | hx
          · exact .inl (.inl hx)
          · exact .inl (.inr (.inl hx))
          · exact .inl (.inr (.inr (.inl hx)))
          · refine (HFs.out x hx).imp (fun h => ?_) id
            exact .inr (.inr (.inr (.inl (by rw [HLV.out]; exact h))))
          · exact .inl (.inr (.inr (.inr (.inr hx))))
        · rcases hx with hx | ⟨y, hy, hx⟩
          · exact .inl (.inl hx)
          · unfold rmsgs at hy
            rcases List.mem_append.1 hy with h1 | h1
            · exact .inl (.inr ⟨y, List.mem_append.2 (.inl h1), hx⟩)
            · rw [List.map_append] at h1
              rcases List.mem_append.1 h1 with h1 | h1
              · exact .inl (.inr ⟨y, List.mem_append.2 (.inr h1), hx⟩)
              · obtain rfl : y = ⟨.slice ma md.length mc, md⟩ := by simpa using h1
                exact .inr (HNN.out x hx)
      exact ⟨rfl, _, hst, by simp, rfl⟩
    · rw [if_pos (by kernel_rfl)]
      have h0 := HC0.out _ (show Up w _ from by first | exact HU4.out | exact (Up.refl w).drew)
      go_simp
      refine hK.out _ _ hS (fun hS2 => ?_)
      clear hK K hS h0
      have hS := hS2
      clear hS2
      refine wpAnyH_take (i := 10) (oi := { dst := some 24, op := Go.Op.binOp Go.BinOp.add 3 (Go.Operand.tmp 22) (Go.Operand.tmp 23) 3, type := 3, pos := "ref.go:111", after := #[{ on := 8, ground := Go.Ground.data }, { on := 9, ground := Go.Ground.data }], guard := none }) (v := .int .i64 ((R.now : Int) + (n : Int))) rfl (by kernel_rfl) (by kernel_rfl) (by kernel_rfl) (fun _ _ _ h => h) (Or.inl ⟨by kernel_rfl, ?_⟩) hS ?_
      · intro w5 hSw
        clear hSw hS
        go_simp
      simp only [Act.put, List.setIfInBounds_toArray, List.set_cons_zero, List.set_cons_succ]
      refine wpAnyH_take (i := 13) (oi := { dst := some 27, op := Go.Op.build 148 #[(0, Go.Operand.tmp 24), (1, Go.Operand.tmp 25), (2, Go.Operand.tmp 26)], type := 148, pos := "ref.go:111", after := #[{ on := 10, ground := Go.Ground.data }, { on := 11, ground := Go.Ground.data }, { on := 12, ground := Go.Ground.data }], guard := none }) (v := .agg #[.int .i64 ((R.now : Int) + (n : Int)), .int .i64 (i : Int), .slice ma md.length mc]) rfl (by kernel_rfl) (by kernel_rfl) (by kernel_rfl) (fun _ _ _ h => h) (Or.inl ⟨by kernel_rfl, ?_⟩) hS ?_
      · intro w5 hSw
        clear hSw hS
        go_simp
      simp only [Act.put, List.setIfInBounds_toArray, List.set_cons_zero, List.set_cons_succ]
      refine wpAnyH_ready (rs := [4, 14]) (by kernel_rfl) (by simp) ?_
      refine AllReadyH.cons (o := { dst := some 18, op := Go.Op.load 112 (Go.Operand.tmp 17), type := 112, pos := "ref.go:111", after := #[{ on := 3, ground := Go.Ground.data }], guard := none }) rfl (fun K hK => ?_) (AllReadyH.cons (o := { dst := some 28, op := Go.Op.buildSlice 112 1 #[(0, Go.Operand.tmp 27)], type := 112, pos := "ref.go:111", after := #[{ on := 13, ground := Go.Ground.data }], guard := none }) rfl (fun K hK => ?_) (AllReadyH.nil))
      · rw [if_pos (by kernel_rfl)]
        have h0 := HC5.out _ (show Up w _ from by first | exact HU4.out | exact (Up.refl w).drew)
        go_simp
        refine hK.out _ _ hS (fun hS2 => ?_)
        clear hK K hS h0
        have hS := hS2
        clear hS2
        refine wpAnyH_ready (rs := [14]) (by kernel_rfl) (by simp) ?_
        refine AllReadyH.cons (o := { dst := some 28, op := Go.Op.buildSlice 112 1 #[(0, Go.Operand.tmp 27)], type := 112, pos := "ref.go:111", after := #[{ on := 13, ground := Go.Ground.data }], guard := none }) rfl (fun K hK => ?_) AllReadyH.nil
        rw [if_pos (by kernel_rfl)]
        go_simp
        have HU4 := Hid.of (((Up.refl w).alloc (.cells #[.int .i64 ((R.now : Int) + (n : Int)), .int .i64 (i : Int), .slice ma md.length mc] 148)).drew)
        generalize hW4 : (w.alloc (.cells #[.int .i64 ((R.now : Int) + (n : Int)), .int .i64 (i : Int), .slice ma md.length mc] 148)).drew = W4 at *
        have HA4 : Hid (At W4 w.heap.size 148 [.int .i64 ((R.now : Int) + (n : Int)), .int .i64 (i : Int), .slice ma md.length mc]) := by
          rw [← hW4]
          exact (at_new w 148 [.int .i64 ((R.now : Int) + (n : Int)), .int .i64 (i : Int), .slice ma md.length mc]).up (Up.refl _).drew
        clear hW4
        refine hK.out _ _ ((Fr.refl _ _).up HU4.out) (fun hS2 => ?_)
        clear hK K hS
        have hS := hS2
        clear hS2
        refine wpAnyH_ready (rs := [15]) (by kernel_rfl) (by simp) ?_
        refine AllReadyH.cons (o := { dst := some 29, op := Go.Op.call { callee := Go.Callee.builtin Go.Builtin.append, args := #[Go.Operand.tmp 18, Go.Operand.tmp 28], argTypes := #[112, 112] }, type := 112, pos := "ref.go:111", after := #[{ on := 4, ground := Go.Ground.data }, { on := 14, ground := Go.Ground.data }], guard := none }) rfl (fun K hK => ?_) AllReadyH.nil
        rw [if_pos (by kernel_rfl)]
        obtain ⟨v5, W5, hap, ho5, hg5, hfr5⟩ := run_append_frsN (P := Try.prog) W4 0 112 112 148 i0 (.agg #[.int .i64 0, .int .i64 0, nilS]) 3 40 Try.underlying112 hi0 hz0 hz1 hz2 rfl (by decide) (.slice la lk lc) _ _ (ow_up HLO.out HU4.out) ⟨w.heap.size, 0, none⟩ 1 1 [.int .i64 ((R.now : Int) + (n : Int)), .int .i64 (i : Int), .slice ma md.length mc] rfl (fun j u hu => by rw [Addr.add_lit, Nat.zero_add]; exact HA4.out.cell hu) (fun u hu => by
          simp only [List.mem_cons, List.not_mem_nil, or_false] at hu
          rcases hu with rfl | rfl | rfl <;> rfl) (by simp only [maxLen]; omega) (by omega) (Nat.zero_le _)
        obtain ⟨va, vk, vc, rfl⟩ := row_any ho5
        have HF5 := Hid.of (((Fr.refl (fun k => (Value.slice la lk lc).ownBlock = some k) w).up HU4.out).by hg5 (fun g hg => .inl hg))
        have HO5 := Hid.of ho5
        have HFs := Hid.of (show Frs w (.slice la lk lc) (.slice va vk vc) from fun g hg => (hfr5 g hg).imp id (fun h => Nat.le_trans HU4.out.size h))
        clear ho5 hg5 hfr5
        refine wp_app (v := .slice la lk lc) (y := .slice (some ⟨w.heap.size, 0, none⟩) 1 1) rfl rfl rfl hap ?_
        simp only [Act.put, List.setIfInBounds_toArray, List.set_cons_zero, List.set_cons_succ]
        refine hK.out _ _ (HF5.out.weak (fun g hg => .inr hg)) (fun hS2 => ?_)
        clear hK K hS hap
        have hS := hS2
        clear hS2
        refine wpAnyH_take (i := 16) (oi := { dst := some 30, op := Go.Op.nilCheck (Go.Operand.tmp 14), type := 0, pos := "ref.go:111", after := #[{ on := 0, ground := Go.Ground.data }, { on := 0, ground := Go.Ground.phase }, { on := 1, ground := Go.Ground.phase }, { on := 2, ground := Go.Ground.phase }, { on := 3, ground := Go.Ground.phase }, { on := 4, ground := Go.Ground.phase }, { on := 5, ground := Go.Ground.phase }, { on := 6, ground := Go.Ground.phase }, { on := 7, ground := Go.Ground.phase }, { on := 8, ground := Go.Ground.phase }, { on := 9, ground := Go.Ground.phase }, { on := 10, ground := Go.Ground.phase }, { on := 11, ground := Go.Ground.phase }, { on := 12, ground := Go.Ground.phase }, { on := 13, ground := Go.Ground.phase }, { on := 14, ground := Go.Ground.phase }, { on := 15, ground := Go.Ground.phase }], guard := none }) (v := .pointer (some ⟨R.nb, 0, none⟩)) rfl (by kernel_rfl) (by kernel_rfl) (by kernel_rfl) (fun _ _ _ h => h) (Or.inl ⟨by kernel_rfl, ?_⟩) hS ?_
        · intro w5 hSw
          clear hSw hS
          go_simp
        simp only [Act.put, List.setIfInBounds_toArray, List.set_cons_zero, List.set_cons_succ]
        refine wpAnyH_take (i := 17) (oi := { dst := some 31, op := Go.Op.fieldAddr 114 (Go.Operand.tmp 30) 5, type := 0, pos := "ref.go:111", after := #[{ on := 16, ground := Go.Ground.data }, { on := 0, ground := Go.Ground.phase }, { on := 1, ground := Go.Ground.phase }, { on := 2, ground := Go.Ground.phase }, { on := 3, ground := Go.Ground.phase }, { on := 4, ground := Go.Ground.phase }, { on := 5, ground := Go.Ground.phase }, { on := 6, ground := Go.Ground.phase }, { on := 7, ground := Go.Ground.phase }, { on := 8, ground := Go.Ground.phase }, { on := 9, ground := Go.Ground.phase }, { on := 10, ground := Go.Ground.phase }, { on := 11, ground := Go.Ground.phase }, { on := 12, ground := Go.Ground.phase }, { on := 13, ground := Go.Ground.phase }, { on := 14, ground := Go.Ground.phase }, { on := 15, ground := Go.Ground.phase }], guard := none }) (v := .pointer (some ⟨R.nb, 5, none⟩)) rfl (by kernel_rfl) (by kernel_rfl) (by kernel_rfl) (fun _ _ _ h => h) (Or.inl ⟨by kernel_rfl, ?_⟩) hS ?_
        · intro w5 hSw
          clear hSw hS
          go_simp
        simp only [Act.put, List.setIfInBounds_toArray, List.set_cons_zero, List.set_cons_succ]
        refine wpAnyH_ready (rs := [18]) (by kernel_rfl) (by simp) ?_
        refine AllReadyH.cons (o := { dst := none, op := Go.Op.store 112 (Go.Operand.tmp 31) (Go.Operand.tmp 29), type := 0, pos := "ref.go:111", after := #[{ on := 17, ground := Go.Ground.data }, { on := 15, ground := Go.Ground.data }, { on := 15, ground := Go.Ground.chain }, { on := 0, ground := Go.Ground.phase }, { on := 1, ground := Go.Ground.phase }, { on := 2, ground := Go.Ground.phase }, { on := 3, ground := Go.Ground.phase }, { on := 4, ground := Go.Ground.phase }, { on := 5, ground := Go.Ground.phase }, { on := 6, ground := Go.Ground.phase }, { on := 7, ground := Go.Ground.phase }, { on := 8, ground := Go.Ground.phase }, { on := 9, ground := Go.Ground.phase }, { on := 10, ground := Go.Ground.phase }, { on := 11, ground := Go.Ground.phase }, { on := 12, ground := Go.Ground.phase }, { on := 13, ground := Go.Ground.phase }, { on := 14, ground := Go.Ground.phase }, { on := 15, ground := Go.Ground.phase }], guard := none }) rfl (fun K hK => ?_) AllReadyH.nil
        rw [if_pos (by kernel_rfl)]
        have hA5 : At W5 R.nb 114 (rcl R) := HF5.out.at HN.out.net (fun e => by
          have t := row_tag HLO.out e
          rw [HN.out.net.tag] at t; cases t)
        have cw := hA5.cell (i := 5) rfl
        have tw := hA5.thaw 5
        have hA6 := hA5.set 5 (.slice va vk vc)
        simp only [List.set_cons_zero, List.set_cons_succ] at hA6
        have hg6 := grown_at W5 R.nb 5 (.slice va vk vc)
        have HA6 := Hid.of hA6
        have HF6 := Hid.of (show Fr (fun k => k = R.nb ∨ R.lv.ownBlock = some k) w (W5.setCell ⟨R.nb, 5, none⟩ (.slice va vk vc)) from (HF5.out.weak (fun g hg => .inr (by rw [HLV.out]; exact hg))).by hg6 (fun g hg => .inl (.inl (Option.some.inj hg).symm)))
        have HO6 := Hid.of (World.ownsRow.kept HO5.out hg6 (.inr (own_ne HO5.out hA5 (by decide))))
        go_simp
        clear hA5 cw tw hA6 hg6
        generalize W5.setCell ⟨R.nb, 5, none⟩ (.slice va vk vc) = W6 at *
        refine hK.out _ _ (HF6.out.weak (fun g hg => hg.imp id (fun h => by rw [HLV.out] at h; exact h))) (fun hS2 => ?_)
        clear hK K hS hS2
        refine wpAnyH_done (by kernel_rfl) ?_ _
        go_wp2
        go_end0
        have hst : RStp N w W6 R (wLv R ⟨R.now + n, i, ⟨.slice ma md.length mc, md⟩⟩ (.slice va vk vc)) (postA (absR R) i md n) := by
          refine ⟨HN.out.later _ _ HA6.out ?_ HF6.out HM.out, absR_later R _ _ n i ⟨_, md⟩ rfl HH0.out, HF6.out.weak (fun g hg => ?_), fun x hx => ?_, fun x hx => ?_, rfl, rfl, rfl⟩
          · rw [List.flatMap_append, List.length_append]
            have := HO6.out
            rw [show (R.now : Int) + (n : Int) = ((R.now + n : Nat) : Int) by omega] at this
            exact this
          · rcases hg with rfl | hg
            · exact .inl rfl
            · exact .inr (.inr (.inr (.inl hg)))
          · rcases hx with hx | hx | hx | hx | hx
            · exact .inl (.inl hx)
            · exact .inl (.inr (.inl hx))
            · exact .inl (.inr (.inr (.inl hx)))
            · refine (HFs.out x hx).imp (fun h => ?_) id
              exact .inr (.inr (.inr (.inl (by rw [HLV.out]; exact h))))
            · exact .inl (.inr (.inr (.inr (.inr hx))))
          · rcases hx with hx | ⟨y, hy, hx⟩
            · exact .inl (.inl hx)
            · unfold rmsgs at hy
              rcases List.mem_append.1 hy with h1 | h1
              · exact .inl (.inr ⟨y, List.mem_append.2 (.inl h1), hx⟩)
              · rw [List.map_append] at h1
                rcases List.mem_append.1 h1 with h1 | h1
                · exact .inl (.inr ⟨y, List.mem_append.2 (.inr h1), hx⟩)
                · obtain rfl : y = ⟨.slice ma md.length mc, md⟩ := by simpa using h1
                  exact .inr (HNN.out x hx)
        exact ⟨rfl, _, hst, by simp, rfl⟩
      · rw [if_pos (by kernel_rfl)]
        go_simp
        have HU4 := Hid.of (((Up.refl w).alloc (.cells #[.int .i64 ((R.now : Int) + (n : Int)), .int .i64 (i : Int), .slice ma md.length mc] 148)).drew)
        generalize hW4 : (w.alloc (.cells #[.int .i64 ((R.now : Int) + (n : Int)), .int .i64 (i : Int), .slice ma md.length mc] 148)).drew = W4 at *
        have HA4 : Hid (At W4 w.heap.size 148 [.int .i64 ((R.now : Int) + (n : Int)), .int .i64 (i : Int), .slice ma md.length mc]) := by
          rw [← hW4]
          exact (at_new w 148 [.int .i64 ((R.now : Int) + (n : Int)), .int .i64 (i : Int), .slice ma md.length mc]).up (Up.refl _).drew
        clear hW4
        refine hK.out _ _ ((Fr.refl _ _).up HU4.out) (fun hS2 => ?_)
        clear hK K hS
        have hS := hS2
        clear hS2
        refine wpAnyH_ready (rs := [4]) (by kernel_rfl) (by simp) ?_
        refine AllReadyH.cons (o := { dst := some 18, op := Go.Op.load 112 (Go.Operand.tmp 17), type := 112, pos := "ref.go:111", after := #[{ on := 3, ground := Go.Ground.data }], guard := none }) rfl (fun K hK => ?_) AllReadyH.nil
        rw [if_pos (by kernel_rfl)]
        have h0 := HC5.out _ (show Up w _ from by first | exact HU4.out | exact (Up.refl w).drew)
        go_simp
        refine hK.out _ _ hS (fun hS2 => ?_)
        clear hK K hS h0
        have hS := hS2
        clear hS2
        refine wpAnyH_ready (rs := [15]) (by kernel_rfl) (by simp) ?_
        refine AllReadyH.cons (o := { dst := some 29, op := Go.Op.call { callee := Go.Callee.builtin Go.Builtin.append, args := #[Go.Operand.tmp 18, Go.Operand.tmp 28], argTypes := #[112, 112] }, type := 112, pos := "ref.go:111", after := #[{ on := 4, ground := Go.Ground.data }, { on := 14, ground := Go.Ground.data }], guard := none }) rfl (fun K hK => ?_) AllReadyH.nil
        rw [if_pos (by kernel_rfl)]
        obtain ⟨v5, W5, hap, ho5, hg5, hfr5⟩ := run_append_frsN (P := Try.prog) W4 0 112 112 148 i0 (.agg #[.int .i64 0, .int .i64 0, nilS]) 3 40 Try.underlying112 hi0 hz0 hz1 hz2 rfl (by decide) (.slice la lk lc) _ _ (ow_up HLO.out HU4.out) ⟨w.heap.size, 0, none⟩ 1 1 [.int .i64 ((R.now : Int) + (n : Int)), .int .i64 (i : Int), .slice ma md.length mc] rfl (fun j u hu => by rw [Addr.add_lit, Nat.zero_add]; exact HA4.out.cell hu) (fun u hu => by
          simp only [List.mem_cons, List.not_mem_nil, or_false] at hu
          rcases hu with rfl | rfl | rfl <;> rfl) (by simp only [maxLen]; omega) (by omega) (Nat.zero_le _)
        obtain ⟨va, vk, vc, rfl⟩ := row_any ho5
        have HF5 := Hid.of (((Fr.refl (fun k => (Value.slice la lk lc).ownBlock = some k) w).up HU4.out).by hg5 (fun g hg => .inl hg))
        have HO5 := Hid.of ho5
        have HFs := Hid.of (show Frs w (.slice la lk lc) (.slice va vk vc) from fun g hg => (hfr5 g hg).imp id (fun h => Nat.le_trans HU4.out.size h))
        clear ho5 hg5 hfr5
        refine wp_app (v := .slice la lk lc) (y := .slice (some ⟨w.heap.size, 0, none⟩) 1 1) rfl rfl rfl hap ?_
        simp only [Act.put, List.setIfInBounds_toArray, List.set_cons_zero, List.set_cons_succ]
        refine hK.out _ _ (HF5.out.weak (fun g hg => .inr hg)) (fun hS2 => ?_)
        clear hK K hS hap
        have hS := hS2
        clear hS2
        refine wpAnyH_take (i := 16) (oi := { dst := some 30, op := Go.Op.nilCheck (Go.Operand.tmp 14), type := 0, pos := "ref.go:111", after := #[{ on := 0, ground := Go.Ground.data }, { on := 0, ground := Go.Ground.phase }, { on := 1, ground := Go.Ground.phase }, { on := 2, ground := Go.Ground.phase }, { on := 3, ground := Go.Ground.phase }, { on := 4, ground := Go.Ground.phase }, { on := 5, ground := Go.Ground.phase }, { on := 6, ground := Go.Ground.phase }, { on := 7, ground := Go.Ground.phase }, { on := 8, ground := Go.Ground.phase }, { on := 9, ground := Go.Ground.phase }, { on := 10, ground := Go.Ground.phase }, { on := 11, ground := Go.Ground.phase }, { on := 12, ground := Go.Ground.phase }, { on := 13, ground := Go.Ground.phase }, { on := 14, ground := Go.Ground.phase }, { on := 15, ground := Go.Ground.phase }], guard := none }) (v := .pointer (some ⟨R.nb, 0, none⟩)) rfl (by kernel_rfl) (by kernel_rfl) (by kernel_rfl) (fun _ _ _ h => h) (Or.inl ⟨by kernel_rfl, ?_⟩) hS ?_
        · intro w5 hSw
          clear hSw hS
          go_simp
        simp only [Act.put, List.setIfInBounds_toArray, List.set_cons_zero, List.set_cons_succ]
        refine wpAnyH_take (i := 17) (oi := { dst := some 31, op := Go.Op.fieldAddr 114 (Go.Operand.tmp 30) 5, type := 0, pos := "ref.go:111", after := #[{ on := 16, ground := Go.Ground.data }, { on := 0, ground := Go.Ground.phase }, { on := 1, ground := Go.Ground.phase }, { on := 2, ground := Go.Ground.phase }, { on := 3, ground := Go.Ground.phase }, { on := 4, ground := Go.Ground.phase }, { on := 5, ground := Go.Ground.phase }, { on := 6, ground := Go.Ground.phase }, { on := 7, ground := Go.Ground.phase }, { on := 8, ground := Go.Ground.phase }, { on := 9, ground := Go.Ground.phase }, { on := 10, ground := Go.Ground.phase }, { on := 11, ground := Go.Ground.phase }, { on := 12, ground := Go.Ground.phase }, { on := 13, ground := Go.Ground.phase }, { on := 14, ground := Go.Ground.phase }, { on := 15, ground := Go.Ground.phase }], guard := none }) (v := .pointer (some ⟨R.nb, 5, none⟩)) rfl (by kernel_rfl) (by kernel_rfl) (by kernel_rfl) (fun _ _ _ h => h) (Or.inl ⟨by kernel_rfl, ?_⟩) hS ?_
        · intro w5 hSw
          clear hSw hS
          go_simp
        simp only [Act.put, List.setIfInBounds_toArray, List.set_cons_zero, List.set_cons_succ]
        refine wpAnyH_ready (rs := [18]) (by kernel_rfl) (by simp) ?_
        refine AllReadyH.cons (o := { dst := none, op := Go.Op.store 112 (Go.Operand.tmp 31) (Go.Operand.tmp 29), type := 0, pos := "ref.go:111", after := #[{ on := 17, ground := Go.Ground.data }, { on := 15, ground := Go.Ground.data }, { on := 15, ground := Go.Ground.chain }, { on := 0, ground := Go.Ground.phase }, { on := 1, ground := Go.Ground.phase }, { on := 2, ground := Go.Ground.phase }, { on := 3, ground := Go.Ground.phase }, { on := 4, ground := Go.Ground.phase }, { on := 5, ground := Go.Ground.phase }, { on := 6, ground := Go.Ground.phase }, { on := 7, ground := Go.Ground.phase }, { on := 8, ground := Go.Ground.phase }, { on := 9, ground := Go.Ground.phase }, { on := 10, ground := Go.Ground.phase }, { on := 11, ground := Go.Ground.phase }, { on := 12, ground := Go.Ground.phase }, { on := 13, ground := Go.Ground.phase }, { on := 14, ground := Go.Ground.phase }, { on := 15, ground := Go.Ground.phase }], guard := none }) rfl (fun K hK => ?_) AllReadyH.nil
        rw [if_pos (by kernel_rfl)]
        have hA5 : At W5 R.nb 114 (rcl R) := HF5.out.at HN.out.net (fun e => by
          have t := row_tag HLO.out e
          rw [HN.out.net.tag] at t; cases t)
        have cw := hA5.cell (i := 5) rfl
        have tw := hA5.thaw 5
        have hA6 := hA5.set 5 (.slice va vk vc)
        simp only [List.set_cons_zero, List.set_cons_succ] at hA6
        have hg6 := grown_at W5 R.nb 5 (.slice va vk vc)
        have HA6 := Hid.of hA6
        have HF6 := Hid.of (show Fr (fun k => k = R.nb ∨ R.lv.ownBlock = some k) w (W5.setCell ⟨R.nb, 5, none⟩ (.slice va vk vc)) from (HF5.out.weak (fun g hg => .inr (by rw [HLV.out]; exact hg))).by hg6 (fun g hg => .inl (.inl (Option.some.inj hg).symm)))
        have HO6 := Hid.of (World.ownsRow.kept HO5.out hg6 (.inr (own_ne HO5.out hA5 (by decide))))
        go_simp
        clear hA5 cw tw hA6 hg6
        generalize W5.setCell ⟨R.nb, 5, none⟩ (.slice va vk vc) = W6 at *
        refine hK.out _ _ (HF6.out.weak (fun g hg => hg.imp id (fun h => by rw [HLV.out] at h; exact h))) (fun hS2 => ?_)
        clear hK K hS hS2
        refine wpAnyH_done (by kernel_rfl) ?_ _
        go_wp2
        go_end0
        have hst : RStp N w W6 R (wLv R ⟨R.now + n, i, ⟨.slice ma md.length mc, md⟩⟩ (.slice va vk vc)) (postA (absR R) i md n) := by
          refine ⟨HN.out.later _ _ HA6.out ?_ HF6.out HM.out, absR_later R _ _ n i ⟨_, md⟩ rfl HH0.out, HF6.out.weak (fun g hg => ?_), fun x hx => ?_, fun x hx => ?_, rfl, rfl, rfl⟩
          · rw [List.flatMap_append, List.length_append]
            have := HO6.out
            rw [show (R.now : Int) + (n : Int) = ((R.now + n : Nat) : Int) by omega] at this
            exact this
          · rcases hg with rfl | hg
            · exact .inl rfl
            · exact .inr (.inr (.inr (.inl hg)))
          · rcases hx with hx | hx | hx | hx | hx
            · exact .inl (.inl hx)
            · exact .inl (.inr (.inl hx))
            · exact .inl (.inr (.inr (.inl hx)))
            · refine (HFs.out x hx).imp (fun h => ?_) id
              exact .inr (.inr (.inr (.inl (by rw [HLV.out]; exact h))))
            · exact .inl (.inr (.inr (.inr (.inr hx))))
          · rcases hx with hx | ⟨y, hy, hx⟩
            · exact .inl (.inl hx)
            · unfold rmsgs at hy
              rcases List.mem_append.1 hy with h1 | h1
              · exact .inl (.inr ⟨y, List.mem_append.2 (.inl h1), hx⟩)
              · rw [List.map_append] at h1
                rcases List.mem_append.1 h1 with h1 | h1
                · exact .inl (.inr ⟨y, List.mem_append.2 (.inr h1), hx⟩)
                · obtain rfl : y = ⟨.slice ma md.length mc, md⟩ := by simpa using h1
                  exact .inr (HNN.out x hx)
        exact ⟨rfl, _, hst, by simp, rfl⟩
end Go.Proofs.Ytdlfkdehfenemaa
namespace Go.Proofs.Ytdlfkdehfenemaa
open Go.RowKit Go.Conc TextNum
set_option maxRecDepth 100000 in
set_option maxHeartbeats 1000000 in
theorem RSend_no (w : World) (R : RS) (z : Int) (v : Value) (h : ROk w R) (hz : isR R z = false) : Calls Try.prog 68 #[.pointer (some ⟨R.nb, 0, none⟩), .int .i64 z, v] w fun e w' => e = .returned (.int .i64 192) ∧ w' = w := by
  have hH := Ris_walk w R z h
  rw [hz] at hH
  clear h
  go_enter Try.func68, Try.ntmps68
  go_wp2_with fail
  refine hH.mono ?_
  rintro e w1 ⟨rfl, rfl⟩
  dsimp only
  go_wp2
  go_ret
  exact ⟨rfl, rfl⟩
theorem ROk.sh_cell {w : World} {R : RS} (h : ROk w R) {i : Nat} {l : RC} (hl : R.ws[i]? = some l) : ∃ sb sc, R.sv = .slice (some ⟨sb, 0, none⟩) R.ws.length sc ∧ R.ws.length ≤ sc ∧ w.cell? ⟨sb, i, none⟩ = some (.bool l.sh) := by
  have hi := (List.getElem?_eq_some_iff.1 hl).1
  obtain ⟨sa, sc, hsv⟩ := row_len h.so
  have hso := h.so
  rw [hsv] at hso
  obtain ⟨sb, rfl, hsc, hx, hcl⟩ := own_get hso hi
  have hgl : (svs R.ws)[i] = .bool l.sh := by
    have := svs_get hl
    rw [List.getElem?_eq_getElem hx] at this
    exact Option.some.inj this
  rw [hgl] at hcl
  exact ⟨sb, sc, hsv, hsc, hcl⟩
set_option maxRecDepth 100000 in
set_option maxHeartbeats 1000000 in
theorem RSend_shut (w : World) (R : RS) (i : Nat) (l : RC) (v : Value) (h : ROk w R) (hl : R.ws[i]? = some l) (hs : l.sh = true) : Calls Try.prog 68 #[.pointer (some ⟨R.nb, 0, none⟩), .int .i64 (i : Int), v] w fun e w' => e = .returned (.int .i64 191) ∧ w' = w := by
  have hH := Ris_walk w R (i : Int) h
  rw [isR_nat hl] at hH
  have hi := (List.getElem?_eq_some_iff.1 hl).1
  obtain ⟨sb, sc, hsv, hsc, c1⟩ := h.sh_cell hl
  have c0 := h.net.cell (i := 4) rfl
  rw [hsv] at c0
  rw [hs] at c1
  clear h
  go_enter Try.func68, Try.ntmps68
  go_wp2_with fail
  refine hH.mono ?_
  rintro e w1 ⟨rfl, rfl⟩
  dsimp only
  go_wp2
  go_ret
  exact ⟨rfl, rfl⟩
set_option maxRecDepth 100000 in
set_option maxHeartbeats 1000000 in
theorem RSend_long (w : World) (R : RS) (i : Nat) (l : RC) (a : Option Addr) (n c : Nat) (h : ROk w R) (hl : R.ws[i]? = some l) (hs : l.sh = false) (hn : 1048576 < n) : Calls Try.prog 68 #[.pointer (some ⟨R.nb, 0, none⟩), .int .i64 (i : Int), .slice a n c] w fun e w' => e = .returned (.int .i64 2) ∧ w' = w := by
  have hH := Ris_walk w R (i : Int) h
  rw [isR_nat hl] at hH
  have hi := (List.getElem?_eq_some_iff.1 hl).1
  obtain ⟨sb, sc, hsv, hsc, c1⟩ := h.sh_cell hl
  have c0 := h.net.cell (i := 4) rfl
  rw [hsv] at c0
  rw [hs] at c1
  have hz : (1048576 : Int) < (n : Int) := by omega
  clear h
  go_enter Try.func68, Try.ntmps68
  go_wp2_with fail
  refine hH.mono ?_
  rintro e w1 ⟨rfl, rfl⟩
  dsimp only
  go_wp2
  go_ret
  exact ⟨rfl, rfl⟩
/-- the net's own cells change -/
theorem ROk.netw {w w' : World} {R : RS} (h : ROk w R) (hb : w.grownBy w' (some R.nb)) (t s : Nat) (hA : At w' R.nb 114 (rcl { R with now := t, st := s })) : ROk w' { R with now := t, st := s } := by
  have hff : Fr (fun k => k = R.nb) w w' := (Fr.refl _ w).by hb (fun g hg => .inl (Option.some.inj hg).symm)
  have no : ∀ k t, otag w k = some t → t ≠ 114 → ¬ k = R.nb := fun k t ht h1 e => by
    subst e
    rw [h.net.tag] at ht
    exact h1 (Option.some.inj ht).symm
  exact ⟨hA, hff.own h.ft (fun g hg => no g _ (row_tag h.ft hg) (by decide)), hff.own h.wo (fun g hg => no g _ (row_tag h.wo hg) (by decide)), hff.own h.so (fun g hg => no g _ (row_tag h.so hg) (by decide)), hff.own h.lo (fun g hg => no g _ (row_tag h.lo hg) (by decide)),
    fun l hl => hff.ownz (h.rw l hl) (fun g hg => no g _ ((h.rw l hl).tag hg) (by decide)), h.dis, fun m hm => hff.own (h.ms m hm) (fun g hg => no g _ (row_tag (h.ms m hm) hg) (by decide))⟩
/-- the fate that the next message takes -/
theorem next_some {R : RS} (h : R.st < R.fs.length) : nextA (absR R) = (R.fs[R.st], absR { R with st := R.st + 1 }) := by
  unfold nextA absR
  dsimp only
  rw [List.drop_eq_getElem_cons h]
theorem next_none {R : RS} (h : ¬ R.st < R.fs.length) : nextA (absR R) = ((0, 0), absR { R with st := R.st + 1 }) := by
  unfold nextA absR
  dsimp only
  rw [List.drop_eq_nil_of_le (by omega), List.drop_eq_nil_of_le (by omega)]
/-- behind the taking of the fate: the box, the count -/
structure SJ (w w' : World) (R : RS) (bx : Nat) (a b : Int) : Prop where
  ok : ROk w' { R with st := R.st + 1 }
  bo : At w' bx 97 [.int .i64 a, .int .i64 b]
  fr : Fr (rown R) w w'
  hb : w.heap.size ≤ bx
theorem box_not {bx : Nat} {a b : Int} {R2 : RS} {w2 : World} (k : ROk w2 R2) (hA : At w2 bx 97 [.int .i64 a, .int .i64 b]) : ¬ rown R2 bx := fun e => by
  rcases k.tag e with t | t | t | t | t <;> rw [hA.tag] at t <;> cases t
theorem SJ.up {w w1 w2 : World} {R : RS} {bx : Nat} {a b : Int} (h : SJ w w1 R bx a b) (u : Up w1 w2) : SJ w w2 R bx a b := ⟨h.ok.up u, h.bo.up u, h.fr.up u, h.hb⟩
theorem SJ.stp {w w1 w2 : World} {R R' : RS} {bx : Nat} {a b : Int} {A : AN} (h : SJ w w1 R bx a b) (s : RStp w.heap.size w1 w2 { R with st := R.st + 1 } R' A) : RStp w.heap.size w w2 R R' A :=
  ⟨s.ok, s.ab, h.fr.trans s.fr (fun _ hx => .inl hx), fun x hx => (s.no x hx).imp id (fun h1 => Nat.le_trans h.fr.size h1), s.nr, s.nb, s.fs, s.ln⟩
theorem Fr.sbx {T : Nat → Prop} {w w' : World} {v : Value} {ds : List UInt8} (h : Fr T w w') (k : Sb w v ds) (hT : ds ≠ [] → ∀ g, v.ownBlock = some g → ¬ T g) : Sb w' v ds := by
  by_cases e : ds = []
  · subst e
    obtain ⟨a, c, rfl, h1, h2, h3, h4⟩ := k
    exact ⟨a, c, rfl, h1, h2, h3, fun ad e => ⟨(h4 ad e).1, fun j u hj => by simp [cb] at hj⟩⟩
  · exact h.sb' k (hT e)
theorem SJ.sb {w w1 : World} {R : RS} {bx : Nat} {a b : Int} (h : SJ w w1 R bx a b) {v : Value} {d : List UInt8} (hd : Sb w v d) (hv : d ≠ [] → ∀ g, v.ownBlock = some g → ¬ rown R g) : Sb w1 v d := h.fr.sbx hd hv
theorem fok_cas {a b : Int} (h : fok (a, b) = true) : a = 0 ∨ a = 1 ∨ (∃ n : Nat, b = (n : Int) ∧ n ≤ 1000 ∧ (a = 2 ∨ a = 3)) ∨ ∃ n : Nat, b = (n : Int) ∧ n ≤ 1048576 ∧ (a = 4 ∨ a = 5) := by
  unfold fok at h
  simp only [Bool.or_eq_true, beq_iff_eq, Bool.and_eq_true, decide_eq_true_eq] at h
  rcases h with ((h | h) | ⟨⟨h, h1⟩, h2⟩) | ⟨⟨h, h1⟩, h2⟩
  · exact .inl h
  · exact .inr (.inl h)
  · exact .inr (.inr (.inl ⟨b.toNat, by omega, by omega, h⟩))
  · exact .inr (.inr (.inr ⟨b.toNat, by omega, by omega, h⟩))
theorem spl_out {d : List UInt8} {n : Nat} (h : d.length ≤ n) : spl d n = d := by
  unfold spl
  rw [List.getElem?_eq_none h]
theorem ow_some {w : World} {B n : Nat} {a : Option Addr} {k c : Nat} {d : List UInt8} (h : Ow w B (.slice a k c) d) (hn : n < d.length) : ∃ g, a = some ⟨g, 0, none⟩ := by
  rcases h.2 with ⟨_, h0⟩ | ⟨g, cap, cur, e, _⟩
  · omega
  · injection e with e1
    exact ⟨g, e1⟩
set_option maxRecDepth 100000 in
set_option maxHeartbeats 4000000 in
theorem RSend_yes (w : World) (R : RS) (i : Nat) (l : RC) (v : Value) (d : List UInt8) (h : ROk w R) (k : ∀ f ∈ R.fs.drop R.st, fok f = true) (hl : R.ws[i]? = some l) (hs : l.sh = false) (hd : Sb w v d) (hv : d ≠ [] → ∀ g, v.ownBlock = some g → ¬ rown R g) (hdl : d.length ≤ 1048576) (hnow : R.now ≤ 2305843009213693952) (hpd : R.pd.length + 1 ≤ 1099511627776) (hst : R.st < 1099511627776) :
    Calls Try.prog 68 #[.pointer (some ⟨R.nb, 0, none⟩), .int .i64 (i : Int), v] w fun e w' => e = .returned (.int .i64 0) ∧ ∃ R', RStp w.heap.size w w' R R' (SendA (absR R) i d) ∧ R'.pd.length ≤ R.pd.length + 1 ∧ R'.st = R.st + 1 := by
  have hH := Ris_walk w R (i : Int) h
  rw [isR_nat hl] at hH
  have hi := (List.getElem?_eq_some_iff.1 hl).1
  obtain ⟨sb, sc, hsv, hsc, c1⟩ := h.sh_cell hl
  have c0 := h.net.cell (i := 4) rfl
  rw [hsv] at c0
  rw [hs] at c1
  obtain ⟨va, vc, rfl, hvl, hvm, hvn, hvs⟩ := id hd
  have hz : (d.length : Int) ≤ 1048576 := by omega
  have hstw : IntKind.i64.wrap ((R.st : Int) + 1) = (R.st : Int) + 1 := by rw [IntKind.wrap_i64]; omega
  obtain ⟨fa, fk, fp, hfv⟩ := row_any h.ft
  have HFV := Hid.of hfv
  have hft := h.ft
  rw [hfv] at hft
  obtain ⟨a9, c9, e9, hfl, _⟩ := row_n hft
  injection e9 with e9 e8 e7
  subst e8 e7 e9
  have HFT := Hid.of hft
  have HN := Hid.of h
  have HK := Hid.of k
  have HD := Hid.of hd
  have HV := Hid.of hv
  have HL := Hid.of hl
  have HS := Hid.of hs
  have HU0 := Hid.of ((Up.refl w).alloc (.cells #[.int .i64 0, .int .i64 0] 97))
  have HB0 := Hid.of (at_new w 97 [.int .i64 0, .int .i64 0])
  clear h k hd hl hs hvl hvm hvn hvs hsv hfv hft hv
  go_enter Try.func68, Try.ntmps68
  go_wp2_with fail
  refine hH.mono ?_
  rintro e w1 ⟨rfl, rfl⟩
  clear hH
  dsimp only
  go_wp2
  clear c0 c1
  generalize w1.alloc (.cells #[.int .i64 0, .int .i64 0] 97) = W0 at *
  have HBX := Hid.of (Nat.le_refl w1.heap.size)
  generalize hbx : w1.heap.size = bx at HBX HB0 ⊢
  have HBE := Hid.of hbx
  clear hbx
  have HC2 := Hid.of (show ∀ w5, Up W0 w5 → w5.cell? ⟨R.nb, 2, none⟩ = some (.int .i64 (R.st : Int)) from fun w5 hu => hu.cell (HU0.out.cell (HN.out.net.cell (i := 2) rfl)))
  have HC1 := Hid.of (show ∀ w5, Up W0 w5 → w5.cell? ⟨R.nb, 1, none⟩ = some (.slice fa R.fs.length fp) from fun w5 hu => hu.cell (HU0.out.cell (by
    have := HN.out.net.cell (i := 1) rfl
    rw [HFV.out] at this
    exact this)))
  by_cases hpr : R.st < R.fs.length
  · have hprz : (R.st : Int) < (R.fs.length : Int) := by omega
    have HPR := Hid.of (next_some hpr)
    have hfk := HK.out R.fs[R.st] (by rw [List.drop_eq_getElem_cons hpr]; exact List.mem_cons_self)
    obtain ⟨g, rfl, hfc, hrg⟩ := row_get HFT.out hpr
    generalize hff : R.fs[R.st] = f at *
    obtain ⟨fx, fy⟩ := f
    have HFK := Hid.of hfk
    have HRG := Hid.of (show ∀ w5, Fr (fun k => k = bx) W0 w5 → w5.rangeAt g (R.st * 2) [.int .i64 fx, .int .i64 fy] from fun w5 hf => by
      have hgl : g < w1.heap.size := (HFT.out.lt g rfl).2
      have h1 : W0.rangeAt g (R.st * 2) [.int .i64 fx, .int .i64 fy] := range_up' hrg HU0.out
      intro j u hj
      rw [World.cell?_of_block (a := ⟨g, R.st * 2 + j, none⟩) (hf.block g (Nat.lt_of_lt_of_le hgl HU0.out.size) (fun e => by have := HBE.out; omega))]
      exact h1 j u hj)
    have hfc2 : (R.fs.length : Int) ≤ (fp : Int) := by omega
    clear hrg hff hfk hfl
    refine wp_region_held_drew (S := fun w2 => Up W0 w2) (by kernel_rfl) (Up.refl W0).drew (fun hS => ?_)
    refine wpAnyH_take (i := 0) (oi := { dst := some 26, op := Go.Op.move (Go.Operand.tmp 0), type := 35, pos := "ref.go:127", after := #[], guard := none }) (v := .pointer (some ⟨R.nb, 0, none⟩)) rfl (by kernel_rfl) (by kernel_rfl) (by kernel_rfl) (fun _ _ _ h => h) (Or.inl ⟨by kernel_rfl, ?_⟩) hS ?_
    · intro w5 hSw
      clear hSw hS
      go_simp
    simp only [Act.put, List.setIfInBounds_toArray, List.set_cons_zero, List.set_cons_succ]
    refine wpAnyH_take (i := 1) (oi := { dst := some 27, op := Go.Op.nilCheck (Go.Operand.tmp 26), type := 0, pos := "ref.go:127", after := #[{ on := 0, ground := Go.Ground.data }], guard := none }) (v := .pointer (some ⟨R.nb, 0, none⟩)) rfl (by kernel_rfl) (by kernel_rfl) (by kernel_rfl) (fun _ _ _ h => h) (Or.inl ⟨by kernel_rfl, ?_⟩) hS ?_
    · intro w5 hSw
      clear hSw hS
      go_simp
    simp only [Act.put, List.setIfInBounds_toArray, List.set_cons_zero, List.set_cons_succ]
    refine wpAnyH_take (i := 2) (oi := { dst := some 28, op := Go.Op.fieldAddr 114 (Go.Operand.tmp 27) 2, type := 0, pos := "ref.go:127", after := #[{ on := 1, ground := Go.Ground.data }], guard := none }) (v := .pointer (some ⟨R.nb, 2, none⟩)) rfl (by kernel_rfl) (by kernel_rfl) (by kernel_rfl) (fun _ _ _ h => h) (Or.inl ⟨by kernel_rfl, ?_⟩) hS ?_
    · intro w5 hSw
      clear hSw hS
      go_simp
    simp only [Act.put, List.setIfInBounds_toArray, List.set_cons_zero, List.set_cons_succ]
    refine wpAnyH_take (i := 3) (oi := { dst := some 29, op := Go.Op.load 3 (Go.Operand.tmp 28), type := 3, pos := "ref.go:127", after := #[{ on := 2, ground := Go.Ground.data }], guard := none }) (v := .int .i64 (R.st : Int)) rfl (by kernel_rfl) (by kernel_rfl) (by kernel_rfl) (fun _ _ _ h => h) (Or.inl ⟨by kernel_rfl, ?_⟩) hS ?_
    · intro w5 hSw
      have h0 := HC2.out w5 hSw
      clear hSw hS
      go_simp
    simp only [Act.put, List.setIfInBounds_toArray, List.set_cons_zero, List.set_cons_succ]
    refine wpAnyH_take (i := 4) (oi := { dst := some 30, op := Go.Op.move (Go.Operand.tmp 0), type := 35, pos := "ref.go:127", after := #[], guard := none }) (v := .pointer (some ⟨R.nb, 0, none⟩)) rfl (by kernel_rfl) (by kernel_rfl) (by kernel_rfl) (fun _ _ _ h => h) (Or.inl ⟨by kernel_rfl, ?_⟩) hS ?_
    · intro w5 hSw
      clear hSw hS
      go_simp
    simp only [Act.put, List.setIfInBounds_toArray, List.set_cons_zero, List.set_cons_succ]
    refine wpAnyH_take (i := 5) (oi := { dst := some 31, op := Go.Op.nilCheck (Go.Operand.tmp 30), type := 0, pos := "ref.go:127", after := #[{ on := 4, ground := Go.Ground.data }], guard := none }) (v := .pointer (some ⟨R.nb, 0, none⟩)) rfl (by kernel_rfl) (by kernel_rfl) (by kernel_rfl) (fun _ _ _ h => h) (Or.inl ⟨by kernel_rfl, ?_⟩) hS ?_
    · intro w5 hSw
      clear hSw hS
      go_simp
    simp only [Act.put, List.setIfInBounds_toArray, List.set_cons_zero, List.set_cons_succ]
    refine wpAnyH_take (i := 6) (oi := { dst := some 32, op := Go.Op.fieldAddr 114 (Go.Operand.tmp 31) 1, type := 0, pos := "ref.go:127", after := #[{ on := 5, ground := Go.Ground.data }], guard := none }) (v := .pointer (some ⟨R.nb, 1, none⟩)) rfl (by kernel_rfl) (by kernel_rfl) (by kernel_rfl) (fun _ _ _ h => h) (Or.inl ⟨by kernel_rfl, ?_⟩) hS ?_
    · intro w5 hSw
      clear hSw hS
      go_simp
    simp only [Act.put, List.setIfInBounds_toArray, List.set_cons_zero, List.set_cons_succ]
    refine wpAnyH_take (i := 7) (oi := { dst := some 33, op := Go.Op.load 92 (Go.Operand.tmp 32), type := 92, pos := "ref.go:127", after := #[{ on := 6, ground := Go.Ground.data }], guard := none }) (v := .slice (some ⟨g, 0, none⟩) R.fs.length fp) rfl (by kernel_rfl) (by kernel_rfl) (by kernel_rfl) (fun _ _ _ h => h) (Or.inl ⟨by kernel_rfl, ?_⟩) hS ?_
    · intro w5 hSw
      have h0 := HC1.out w5 hSw
      clear hSw hS
      go_simp
    simp only [Act.put, List.setIfInBounds_toArray, List.set_cons_zero, List.set_cons_succ]
    refine wpAnyH_take (i := 8) (oi := { dst := some 34, op := Go.Op.call { callee := Go.Callee.builtin Go.Builtin.len, args := #[Go.Operand.tmp 33], argTypes := #[92] }, type := 3, pos := "ref.go:127", after := #[{ on := 7, ground := Go.Ground.data }], guard := none }) (v := .int .i64 (R.fs.length : Int)) rfl (by kernel_rfl) (by kernel_rfl) (by kernel_rfl) (fun _ _ _ h => h) (Or.inl ⟨by kernel_rfl, ?_⟩) hS ?_
    · intro w5 hSw
      clear hSw hS
      go_simp
    simp only [Act.put, List.setIfInBounds_toArray, List.set_cons_zero, List.set_cons_succ]
    refine wpAnyH_take (i := 9) (oi := { dst := some 35, op := Go.Op.binOp Go.BinOp.lss 3 (Go.Operand.tmp 29) (Go.Operand.tmp 34) 3, type := 4, pos := "ref.go:127", after := #[{ on := 3, ground := Go.Ground.data }, { on := 8, ground := Go.Ground.data }], guard := none }) (v := .bool true) rfl (by kernel_rfl) (by kernel_rfl) (by kernel_rfl) (fun _ _ _ h => h) (Or.inl ⟨by kernel_rfl, ?_⟩) hS ?_
    · intro w5 hSw
      clear hSw hS
      go_simp
    simp only [Act.put, List.setIfInBounds_toArray, List.set_cons_zero, List.set_cons_succ]
    refine wpAnyH_done (by kernel_rfl) ?_ _
    go_wp2
    have HC3 := Hid.of (show ∀ w5, Fr (fun k => k = bx) W0 w5 → w5.cell? ⟨R.nb, 2, none⟩ = some (.int .i64 (R.st : Int)) ∧ w5.cell? ⟨R.nb, 1, none⟩ = some (.slice (some ⟨g, 0, none⟩) R.fs.length fp) from fun w5 hf => by
      have hn : R.nb < w1.heap.size := lt_of_at HN.out.net
      have hb := hf.block R.nb (Nat.lt_of_lt_of_le hn HU0.out.size) (fun e => by have := HBE.out; omega)
      exact ⟨by rw [World.cell?_of_block (a := ⟨R.nb, 2, none⟩) hb]; exact HC2.out W0 (Up.refl _), by rw [World.cell?_of_block (a := ⟨R.nb, 1, none⟩) hb]; exact HC1.out W0 (Up.refl _)⟩)
    refine wp_region_held_drew (S := fun w2 => Fr (fun k => k = bx) W0 w2) (by kernel_rfl) ((Fr.refl _ _).up ((Up.refl W0).drew.drew)) (fun hS => ?_)
    refine wpAnyH_take (i := 0) (oi := { dst := some 36, op := Go.Op.move (Go.Operand.tmp 0), type := 35, pos := "ref.go:128", after := #[], guard := none }) (v := .pointer (some ⟨R.nb, 0, none⟩)) rfl (by kernel_rfl) (by kernel_rfl) (by kernel_rfl) (fun _ _ _ h => h) (Or.inl ⟨by kernel_rfl, ?_⟩) hS ?_
    · intro w5 hSw
      clear hSw hS
      go_simp
    simp only [Act.put, List.setIfInBounds_toArray, List.set_cons_zero, List.set_cons_succ]
    refine wpAnyH_take (i := 1) (oi := { dst := some 37, op := Go.Op.nilCheck (Go.Operand.tmp 36), type := 0, pos := "ref.go:128", after := #[{ on := 0, ground := Go.Ground.data }], guard := none }) (v := .pointer (some ⟨R.nb, 0, none⟩)) rfl (by kernel_rfl) (by kernel_rfl) (by kernel_rfl) (fun _ _ _ h => h) (Or.inl ⟨by kernel_rfl, ?_⟩) hS ?_
    · intro w5 hSw
      clear hSw hS
      go_simp
    simp only [Act.put, List.setIfInBounds_toArray, List.set_cons_zero, List.set_cons_succ]
    refine wpAnyH_take (i := 2) (oi := { dst := some 38, op := Go.Op.fieldAddr 114 (Go.Operand.tmp 37) 1, type := 0, pos := "ref.go:128", after := #[{ on := 1, ground := Go.Ground.data }], guard := none }) (v := .pointer (some ⟨R.nb, 1, none⟩)) rfl (by kernel_rfl) (by kernel_rfl) (by kernel_rfl) (fun _ _ _ h => h) (Or.inl ⟨by kernel_rfl, ?_⟩) hS ?_
    · intro w5 hSw
      clear hSw hS
      go_simp
    simp only [Act.put, List.setIfInBounds_toArray, List.set_cons_zero, List.set_cons_succ]
    refine wpAnyH_take (i := 3) (oi := { dst := some 39, op := Go.Op.load 92 (Go.Operand.tmp 38), type := 92, pos := "ref.go:128", after := #[{ on := 2, ground := Go.Ground.data }], guard := none }) (v := .slice (some ⟨g, 0, none⟩) R.fs.length fp) rfl (by kernel_rfl) (by kernel_rfl) (by kernel_rfl) (fun _ _ _ h => h) (Or.inl ⟨by kernel_rfl, ?_⟩) hS ?_
    · intro w5 hSw
      have h0 := (HC3.out w5 hSw).2
      clear hSw hS
      go_simp
    simp only [Act.put, List.setIfInBounds_toArray, List.set_cons_zero, List.set_cons_succ]
    refine wpAnyH_take (i := 4) (oi := { dst := some 40, op := Go.Op.move (Go.Operand.tmp 0), type := 35, pos := "ref.go:128", after := #[], guard := none }) (v := .pointer (some ⟨R.nb, 0, none⟩)) rfl (by kernel_rfl) (by kernel_rfl) (by kernel_rfl) (fun _ _ _ h => h) (Or.inl ⟨by kernel_rfl, ?_⟩) hS ?_
    · intro w5 hSw
      clear hSw hS
      go_simp
    simp only [Act.put, List.setIfInBounds_toArray, List.set_cons_zero, List.set_cons_succ]
    refine wpAnyH_take (i := 5) (oi := { dst := some 41, op := Go.Op.nilCheck (Go.Operand.tmp 40), type := 0, pos := "ref.go:128", after := #[{ on := 4, ground := Go.Ground.data }], guard := none }) (v := .pointer (some ⟨R.nb, 0, none⟩)) rfl (by kernel_rfl) (by kernel_rfl) (by kernel_rfl) (fun _ _ _ h => h) (Or.inl ⟨by kernel_rfl, ?_⟩) hS ?_
    · intro w5 hSw
      clear hSw hS
      go_simp
    simp only [Act.put, List.setIfInBounds_toArray, List.set_cons_zero, List.set_cons_succ]
    refine wpAnyH_take (i := 6) (oi := { dst := some 42, op := Go.Op.fieldAddr 114 (Go.Operand.tmp 41) 2, type := 0, pos := "ref.go:128", after := #[{ on := 5, ground := Go.Ground.data }], guard := none }) (v := .pointer (some ⟨R.nb, 2, none⟩)) rfl (by kernel_rfl) (by kernel_rfl) (by kernel_rfl) (fun _ _ _ h => h) (Or.inl ⟨by kernel_rfl, ?_⟩) hS ?_
    · intro w5 hSw
      clear hSw hS
      go_simp
    simp only [Act.put, List.setIfInBounds_toArray, List.set_cons_zero, List.set_cons_succ]
    refine wpAnyH_take (i := 7) (oi := { dst := some 43, op := Go.Op.load 3 (Go.Operand.tmp 42), type := 3, pos := "ref.go:128", after := #[{ on := 6, ground := Go.Ground.data }], guard := none }) (v := .int .i64 (R.st : Int)) rfl (by kernel_rfl) (by kernel_rfl) (by kernel_rfl) (fun _ _ _ h => h) (Or.inl ⟨by kernel_rfl, ?_⟩) hS ?_
    · intro w5 hSw
      have h0 := (HC3.out w5 hSw).1
      clear hSw hS
      go_simp
    simp only [Act.put, List.setIfInBounds_toArray, List.set_cons_zero, List.set_cons_succ]
    refine wpAnyH_take (i := 8) (oi := { dst := some 44, op := Go.Op.indexAddr 92 (Go.Operand.tmp 39) (Go.Operand.tmp 43), type := 0, pos := "ref.go:128", after := #[{ on := 3, ground := Go.Ground.data }, { on := 7, ground := Go.Ground.data }], guard := none }) (v := .pointer (some ⟨g, R.st * 2, none⟩)) rfl (by kernel_rfl) (by kernel_rfl) (by kernel_rfl) (fun _ _ _ h => h) (Or.inl ⟨by kernel_rfl, ?_⟩) hS ?_
    · intro w5 hSw
      clear hSw hS
      go_simp
    simp only [Act.put, List.setIfInBounds_toArray, List.set_cons_zero, List.set_cons_succ]
    refine wpAnyH_take (i := 9) (oi := { dst := some 45, op := Go.Op.load 97 (Go.Operand.tmp 44), type := 97, pos := "ref.go:128", after := #[{ on := 8, ground := Go.Ground.data }], guard := none }) (v := .agg ([.int .i64 fx, .int .i64 fy]).toArray) rfl (by kernel_rfl) (by kernel_rfl) (by kernel_rfl) (fun _ _ _ h => h) (yieldsIf_load_mid (by kernel_rfl) _ _ rfl (g) (R.st * 2) rfl ([.int .i64 fx, .int .i64 fy]) _ (fun w5 hSw => HRG.out w5 hSw) Try.underlying97 rfl (by kernel_rfl)) hS ?_
    simp only [Act.put, List.setIfInBounds_toArray, List.set_cons_zero, List.set_cons_succ]
    refine wpAnyH_ready (rs := [10]) (by kernel_rfl) (by simp) ?_
    refine AllReadyH.cons (o := { dst := none, op := Go.Op.store 97 (Go.Operand.tmp 8) (Go.Operand.tmp 45), type := 0, pos := "ref.go:128", after := #[{ on := 9, ground := Go.Ground.data }, { on := 0, ground := Go.Ground.phase }, { on := 1, ground := Go.Ground.phase }, { on := 2, ground := Go.Ground.phase }, { on := 3, ground := Go.Ground.phase }, { on := 4, ground := Go.Ground.phase }, { on := 5, ground := Go.Ground.phase }, { on := 6, ground := Go.Ground.phase }, { on := 7, ground := Go.Ground.phase }, { on := 8, ground := Go.Ground.phase }, { on := 9, ground := Go.Ground.phase }], guard := none }) rfl (fun K hK => ?_) AllReadyH.nil
    rw [if_pos (by kernel_rfl)]
    have hB1 : At W0.drew.drew bx 97 [.int .i64 0, .int .i64 0] := HB0.out.up ((Up.refl W0).drew.drew)
    refine wp_store_mid _ _ _ rfl bx 0 #[.int .i64 fx, .int .i64 fy] rfl rfl hB1.there (by kernel_rfl) (by simp [Value.oneCell']) ?_
    simp only [Act.put]
    have HB1 := Hid.of (hB1.sets (vs := [.int .i64 fx, .int .i64 fy]) rfl)
    have HF1 := Hid.of (((Fr.refl (fun k => k = bx) W0).up (Up.refl W0).drew.drew).by (grown_sets bx [.int .i64 fx, .int .i64 fy] 0 W0.drew.drew) (fun g hg => .inl (Option.some.inj hg).symm))
    clear hB1
    refine hK.out _ _ HF1.out (fun hS2 => ?_)
    clear hK K hS hS2
    refine wpAnyH_done (by kernel_rfl) ?_ _
    generalize W0.drew.drew.setCells bx 0 [.int .i64 fx, .int .i64 fy] = W1 at *
    have HUW := Hid.of (show Fr (fun _ => False) w1 W1 from ⟨HF1.out.os.trans HU0.out.os, HF1.out.tape.trans HU0.out.tape, HF1.out.output.trans HU0.out.output, Nat.le_trans HU0.out.size HF1.out.size, fun j hj _ => (HF1.out.block j (Nat.lt_of_lt_of_le hj HU0.out.size) (fun e => by have := HBE.out; omega)).trans (HU0.out.block j hj)⟩)
    have HN1 := Hid.of (HN.out.fr HUW.out (fun _ _ h => h) (fun _ _ h => h))
    have c2 := HN1.out.net.cell (i := 2) rfl
    have t2 := HN1.out.net.thaw 2
    have hA2 := HN1.out.net.set 2 (.int .i64 ((R.st : Int) + 1))
    simp only [List.set_cons_zero, List.set_cons_succ] at hA2
    have hg2 := grown_at W1 R.nb 2 (.int .i64 ((R.st : Int) + 1))
    have hbn : bx ≠ R.nb := by have := lt_of_at HN.out.net; have := HBE.out; omega
    have HSJ := Hid.of (show SJ w1 (W1.setCell ⟨R.nb, 2, none⟩ (.int .i64 ((R.st : Int) + 1))) R bx fx fy from ⟨HN1.out.netw hg2 R.now (R.st + 1) hA2, HB1.out.by hg2 (fun e => hbn (Option.some.inj e).symm), (HUW.out.weak (fun _ h => h.elim)).by hg2 (fun g hg => .inl (.inl (Option.some.inj hg).symm)), by have := HBE.out; omega⟩)
    clear hA2 hg2 hbn HUW HN1 HF1 HB1
    go_wp2_with fail
    have HCP := Hid.of (Rcopied_walk (W1.setCell ⟨R.nb, 2, none⟩ (.int .i64 ((R.st : Int) + 1))) _ d (HSJ.out.sb HD.out HV.out) (by omega))
    generalize W1.setCell ⟨R.nb, 2, none⟩ (.int .i64 ((R.st : Int) + 1)) = W2 at *
    clear c2 t2
    refine HCP.out.mono ?_
    rintro e w3 ⟨v3, rfl, o3, u3⟩
    have HO3 := Hid.of (show Ow w3 w1.heap.size v3 d from ow_base o3 HSJ.out.fr.size)
    have HJ3 := Hid.of (HSJ.out.up u3)
    clear o3 u3 HSJ HCP
    dsimp only
    have k0 := HJ3.out.bo.cell (i := 0) rfl
    have k1 := HJ3.out.bo.cell (i := 1) rfl
    obtain ⟨ma, mc, rfl, hmc, _⟩ := Ow.sb HO3.out
    rcases fok_cas HFK.out with rfl | rfl | ⟨n, rfl, hn9, rfl | rfl⟩ | ⟨n, rfl, hn9, rfl | rfl⟩
    · have HAB := Hid.of (show SendA (absR R) i d = putA (absR { R with st := R.st + 1 }) i d by
        unfold SendA
        rw [HPR.out]
        unfold sendA
        dsimp only
        rw [if_pos rfl]
        rw [postA, if_pos rfl])
      have hC := Rcome_walk w3 { R with st := R.st + 1 } i l ⟨.slice ma d.length mc, d⟩ HJ3.out.ok HL.out (ow_base HO3.out (Nat.zero_le _)) (N := w1.heap.size) (fun g hg => (World.ownsRow.lt HO3.out g hg).1)
      dsimp only at hC
      go_wp2_with fail
      refine hC.mono ?_
      rintro e w4 ⟨rfl, v', h4⟩
      have H4 := Hid.of h4
      clear hC h4
      dsimp only
      go_wp2
      go_ret
      refine ⟨rfl, wWs { R with st := R.st + 1 } i (comeR l ⟨.slice ma d.length mc, d⟩ v'), ?_, Nat.le_succ _, rfl⟩
      rw [HAB.out]
      exact HJ3.out.stp H4.out
    · have HAB := Hid.of (show SendA (absR R) i d = absR { R with st := R.st + 1 } by
        unfold SendA
        rw [HPR.out]
        unfold sendA
        dsimp only
        rw [if_neg (by decide), if_pos rfl])
      go_wp2
      go_ret
      refine ⟨rfl, { R with st := R.st + 1 }, ?_, Nat.le_succ _, rfl⟩
      rw [HAB.out]
      exact HJ3.out.stp (RStp.refl HJ3.out.ok)
    · have HAB := Hid.of (show SendA (absR R) i d = postA (putA (absR { R with st := R.st + 1 }) i d) i d n by
        unfold SendA
        rw [HPR.out]
        unfold sendA
        dsimp only
        rw [if_neg (by decide), if_neg (by decide), if_pos rfl]
        rw [show postA (absR { R with st := R.st + 1 }) i d 0 = putA (absR { R with st := R.st + 1 }) i d by rw [postA, if_pos rfl]]
        rfl)
      have hC := Rcome_walk w3 { R with st := R.st + 1 } i l ⟨.slice ma d.length mc, d⟩ HJ3.out.ok HL.out (ow_base HO3.out (Nat.zero_le _)) (N := w1.heap.size) (fun g hg => (World.ownsRow.lt HO3.out g hg).1)
      dsimp only at hC
      go_wp2_with fail
      refine hC.mono ?_
      rintro e w4 ⟨rfl, v', h4⟩
      have H4 := Hid.of h4
      clear hC h4
      dsimp only
      have HL4 := Hid.of (show ({ R with st := R.st + 1 } : RS).ws[i]? = some l from HL.out)
      obtain ⟨R2, hR2⟩ : ∃ R2, (wWs { R with st := R.st + 1 } i (comeR l ⟨.slice ma d.length mc, d⟩ v')) = R2 := ⟨_, rfl⟩
      have hl2 : R2.ws[i]? = some (comeR l ⟨.slice ma d.length mc, d⟩ v') := by rw [← hR2]; exact set_get' HL.out
      have hq2 : R2.now = R.now ∧ R2.pd = R.pd ∧ R2.st = R.st + 1 ∧ R2.nb = R.nb := by rw [← hR2]; exact ⟨rfl, rfl, rfl, rfl⟩
      have HQ2 := Hid.of hq2
      rw [hR2] at H4
      have HL2 := Hid.of hl2
      obtain ⟨l2, hl2e⟩ : ∃ l2, comeR l ⟨.slice ma d.length mc, d⟩ v' = l2 := ⟨_, rfl⟩
      rw [hl2e] at HL2
      clear hl2 hR2 hl2e hq2 HL4
      have hbo4 : At w4 bx 97 [.int .i64 2, .int .i64 (n : Int)] := H4.out.fr.at HJ3.out.bo (box_not HJ3.out.ok HJ3.out.bo)
      have HBO4 := Hid.of hbo4
      have HNB := Hid.of (box_not H4.out.ok hbo4)
      have HJ4 := Hid.of (HJ3.out.stp H4.out)
      have HD4 := Hid.of (HJ4.out.fr.sbx HD.out HV.out)
      clear hbo4 k0 k1
      go_wp2
      refine wp_region_held_drew (S := fun w2 => Fr (rown R2) w4 w2) (by kernel_rfl) ((Fr.refl _ _).up (Up.refl _).drew) (fun hS => ?_)
      refine wpAnyH_take (i := 0) (oi := { dst := some 69, op := Go.Op.move (Go.Operand.tmp 0), type := 35, pos := "ref.go:137", after := #[], guard := none }) (v := .pointer (some ⟨R.nb, 0, none⟩)) rfl (by kernel_rfl) (by kernel_rfl) (by kernel_rfl) (fun _ _ _ h => h) (Or.inl ⟨by kernel_rfl, ?_⟩) hS ?_
      · intro w5 hSw
        clear hSw hS
        go_simp
      simp only [Act.put, List.setIfInBounds_toArray, List.set_cons_zero, List.set_cons_succ]
      refine wpAnyH_take (i := 1) (oi := { dst := some 70, op := Go.Op.move (Go.Operand.tmp 1), type := 3, pos := "ref.go:137", after := #[], guard := none }) (v := .int .i64 (i : Int)) rfl (by kernel_rfl) (by kernel_rfl) (by kernel_rfl) (fun _ _ _ h => h) (Or.inl ⟨by kernel_rfl, ?_⟩) hS ?_
      · intro w5 hSw
        clear hSw hS
        go_simp
      simp only [Act.put, List.setIfInBounds_toArray, List.set_cons_zero, List.set_cons_succ]
      refine wpAnyH_take (i := 2) (oi := { dst := some 71, op := Go.Op.move (Go.Operand.tmp 2), type := 47, pos := "ref.go:137", after := #[], guard := none }) (v := .slice va d.length vc) rfl (by kernel_rfl) (by kernel_rfl) (by kernel_rfl) (fun _ _ _ h => h) (Or.inl ⟨by kernel_rfl, ?_⟩) hS ?_
      · intro w5 hSw
        clear hSw hS
        go_simp
      simp only [Act.put, List.setIfInBounds_toArray, List.set_cons_zero, List.set_cons_succ]
      refine wpAnyH_take (i := 4) (oi := { dst := some 73, op := Go.Op.fieldAddr 97 (Go.Operand.tmp 8) 1, type := 0, pos := "ref.go:137", after := #[], guard := none }) (v := .pointer (some ⟨bx, 1, none⟩)) rfl (by kernel_rfl) (by kernel_rfl) (by kernel_rfl) (fun _ _ _ h => h) (Or.inl ⟨by kernel_rfl, ?_⟩) hS ?_
      · intro w5 hSw
        clear hSw hS
        go_simp
      simp only [Act.put, List.setIfInBounds_toArray, List.set_cons_zero, List.set_cons_succ]
      refine wpAnyH_take (i := 5) (oi := { dst := some 74, op := Go.Op.load 3 (Go.Operand.tmp 73), type := 3, pos := "ref.go:137", after := #[{ on := 4, ground := Go.Ground.data }], guard := none }) (v := .int .i64 (n : Int)) rfl (by kernel_rfl) (by kernel_rfl) (by kernel_rfl) (fun _ _ _ h => h) (Or.inl ⟨by kernel_rfl, ?_⟩) hS ?_
      · intro w5 hSw
        have h0 := (hSw.at HBO4.out HNB.out).cell (i := 1) rfl
        clear hSw hS
        go_simp
      simp only [Act.put, List.setIfInBounds_toArray, List.set_cons_zero, List.set_cons_succ]
      refine wpAnyH_ready (rs := [3]) (by kernel_rfl) (by simp) ?_
      refine AllReadyH.cons (o := { dst := some 72, op := Go.Op.call { callee := Go.Callee.value (Go.Operand.func 76), args := #[Go.Operand.tmp 71], argTypes := #[47] }, type := 47, pos := "ref.go:137", after := #[{ on := 2, ground := Go.Ground.data }], guard := none }) rfl (fun K hK => ?_) AllReadyH.nil
      rw [if_pos (by kernel_rfl)]
      go_simp
      refine (Rcopied_walk w4.drew (.slice va d.length vc) d (HD4.out.up (Up.refl _).drew) (by omega)).mono ?_
      rintro e w5 ⟨v5, rfl, o5, u5⟩
      dsimp only
      have HU5 := Hid.of ((Up.refl w4).drew.trans u5)
      have HO5 := Hid.of (show Ow w5 w1.heap.size v5 d from ow_base o5 (Nat.le_trans HJ4.out.fr.size (Nat.le_refl _) : w1.heap.size ≤ w4.drew.heap.size))
      clear o5 u5 hS
      refine hK.out _ _ ((Fr.refl _ _).up HU5.out) (fun hS => ?_)
      clear hK K
      refine wpAnyH_ready (rs := [6]) (by kernel_rfl) (by simp) ?_
      refine AllReadyH.cons (o := { dst := some 75, op := Go.Op.call { callee := Go.Callee.value (Go.Operand.func 78), args := #[Go.Operand.tmp 69, Go.Operand.tmp 70, Go.Operand.tmp 72, Go.Operand.tmp 74], argTypes := #[35, 3, 47, 3] }, type := 0, pos := "ref.go:137", after := #[{ on := 0, ground := Go.Ground.data }, { on := 1, ground := Go.Ground.data }, { on := 3, ground := Go.Ground.data }, { on := 5, ground := Go.Ground.data }, { on := 3, ground := Go.Ground.chain }], guard := none }) rfl (fun K hK => ?_) AllReadyH.nil
      rw [if_pos (by kernel_rfl)]
      have hC := Rlater_walk w5 R2 i n l2 ⟨v5, d⟩ (H4.out.ok.up HU5.out) HL2.out (ow_base HO5.out (Nat.zero_le _)) (N := w1.heap.size) (fun g hg => (World.ownsRow.lt HO5.out g hg).1) (by rw [HQ2.out.1]; exact hnow) hn9 (by rw [HQ2.out.2.1]; omega)
      dsimp only at hC
      rw [HQ2.out.2.2.2] at hC
      go_simp
      refine hC.mono ?_
      rintro e w6 ⟨rfl, R', h6, hpd6, hst6⟩
      dsimp only
      have H6 := Hid.of h6
      have HP6 := Hid.of (And.intro hpd6 hst6)
      clear hC h6 hpd6 hst6 hS
      refine hK.out _ _ (((Fr.refl _ _).up HU5.out).trans H6.out.fr (fun x hx => .inl hx)) (fun hS => ?_)
      clear hK K hS
      refine wpAnyH_done (by kernel_rfl) ?_ _
      go_wp2
      go_ret
      refine ⟨rfl, R', ?_, ?_, ?_⟩
      · rw [HAB.out]
        have h7 := H6.out
        rw [H4.out.ab] at h7
        exact HJ4.out.trans (h7.base HU5.out)
      · have := HP6.out.1
        rw [HQ2.out.2.1] at this
        exact this
      · rw [HP6.out.2]
        exact HQ2.out.2.2.1
    · have HAB := Hid.of (show SendA (absR R) i d = postA (absR { R with st := R.st + 1 }) i d n by
        unfold SendA
        rw [HPR.out]
        unfold sendA
        dsimp only
        rw [if_neg (by decide), if_neg (by decide), if_neg (by decide), if_pos rfl]
        rfl)
      have hC := Rlater_walk w3 { R with st := R.st + 1 } i n l ⟨.slice ma d.length mc, d⟩ HJ3.out.ok HL.out (ow_base HO3.out (Nat.zero_le _)) (N := w1.heap.size) (fun g hg => (World.ownsRow.lt HO3.out g hg).1) hnow hn9 (by dsimp only; omega)
      dsimp only at hC
      go_wp2_with fail
      refine hC.mono ?_
      rintro e w4 ⟨rfl, R', h4, hpd4, hst4⟩
      have H4 := Hid.of h4
      have HP4 := Hid.of (And.intro hpd4 hst4)
      clear hC h4 hpd4 hst4
      dsimp only
      go_wp2
      go_ret
      refine ⟨rfl, R', ?_, HP4.out.1, HP4.out.2⟩
      rw [HAB.out]
      exact HJ3.out.stp H4.out
    · by_cases hnd : n < d.length
      · have hndz : (n : Int) < (d.length : Int) := by omega
        have hncz : (n : Int) ≤ (mc : Int) := by omega
        have HAB := Hid.of (show SendA (absR R) i d = putA (absR { R with st := R.st + 1 }) i (d.take n) by
          unfold SendA
          rw [HPR.out]
          unfold sendA
          dsimp only
          rw [if_neg (by decide), if_neg (by decide), if_neg (by decide), if_neg (by decide), if_pos rfl]
          rw [postA, if_pos rfl]
          rfl)
        have hcp := Rcopied_walk w3 (.slice ma n mc) (d.take n) (Sb.take' (Ow.sb HO3.out) n (by omega)) (by rw [List.length_take]; omega)
        go_wp2_with fail
        refine hcp.mono ?_
        rintro e w9 ⟨v9, rfl, o9, u9⟩
        have HJ9 := Hid.of (HJ3.out.up u9)
        have HO9 := Hid.of (show Ow w9 w1.heap.size v9 (d.take n) from ow_base o9 HJ3.out.fr.size)
        clear o9 u9 hcp
        dsimp only
        have hC := Rcome_walk w9 { R with st := R.st + 1 } i l ⟨v9, d.take n⟩ HJ9.out.ok HL.out (ow_base HO9.out (Nat.zero_le _)) (N := w1.heap.size) (fun g hg => (World.ownsRow.lt HO9.out g hg).1)
        dsimp only at hC
        go_wp2_with fail
        refine hC.mono ?_
        rintro e w4 ⟨rfl, v', h4⟩
        have H4 := Hid.of h4
        clear hC h4
        dsimp only
        go_wp2
        go_ret
        refine ⟨rfl, wWs { R with st := R.st + 1 } i (comeR l ⟨v9, d.take n⟩ v'), ?_, Nat.le_succ _, rfl⟩
        rw [HAB.out]
        exact HJ9.out.stp H4.out
      · have hndz : ¬ (n : Int) < (d.length : Int) := by omega
        have HAB := Hid.of (show SendA (absR R) i d = putA (absR { R with st := R.st + 1 }) i d by
          unfold SendA
          rw [HPR.out]
          unfold sendA
          dsimp only
          rw [if_neg (by decide), if_neg (by decide), if_neg (by decide), if_neg (by decide), if_pos rfl]
          rw [postA, if_pos rfl]
          rw [show d.take (n : Int).toNat = d from List.take_of_length_le (by rw [Int.toNat_natCast]; omega)])
        have hC := Rcome_walk w3 { R with st := R.st + 1 } i l ⟨.slice ma d.length mc, d⟩ HJ3.out.ok HL.out (ow_base HO3.out (Nat.zero_le _)) (N := w1.heap.size) (fun g hg => (World.ownsRow.lt HO3.out g hg).1)
        dsimp only at hC
        go_wp2_with fail
        refine hC.mono ?_
        rintro e w4 ⟨rfl, v', h4⟩
        have H4 := Hid.of h4
        clear hC h4
        dsimp only
        go_wp2
        go_ret
        refine ⟨rfl, wWs { R with st := R.st + 1 } i (comeR l ⟨.slice ma d.length mc, d⟩ v'), ?_, Nat.le_succ _, rfl⟩
        rw [HAB.out]
        exact HJ3.out.stp H4.out
    · by_cases hnd : n < d.length
      · have hndz : (n : Int) < (d.length : Int) := by omega
        have hncz : (d.length : Int) ≤ (mc : Int) := by omega
        have HAB := Hid.of (show SendA (absR R) i d = putA (absR { R with st := R.st + 1 }) i (spl d n) by
          unfold SendA
          rw [HPR.out]
          unfold sendA
          dsimp only
          rw [if_neg (by decide), if_neg (by decide), if_neg (by decide), if_neg (by decide), if_neg (by decide), if_pos rfl]
          rw [postA, if_pos rfl]
          rfl)
        obtain ⟨g9, e9⟩ := ow_some HO3.out hnd
        subst e9
        obtain ⟨y, hy⟩ : ∃ y, d[n] = y := ⟨_, rfl⟩
        have hsp : spl d n = d.set n (y ^^^ 1) := by
          unfold spl
          rw [List.getElem?_eq_getElem hnd, hy]
        have HSP := Hid.of hsp
        have hgb : bx ≠ g9 := fun e => by
          have t := row_tag HO3.out rfl (g := g9)
          rw [← e, HJ3.out.bo.tag] at t; cases t
        have HGB := Hid.of hgb
        have hx1 := xor1 y
        obtain ⟨y2, hy2⟩ : ∃ y2, y ^^^ 1 = y2 := ⟨_, rfl⟩
        rw [hy2] at hx1 HSP
        have hY := (ow_cells HO3.out hnd).1
        rw [hy] at hY
        have HY := Hid.of (show w3.drew.cell? ⟨g9, n, none⟩ = some (.int .u8 (y.toNat : Int)) from (Up.refl w3).drew.cell hY)
        have HBO := Hid.of (show ∀ w5, Fr (fun q => q = g9) w3 w5 → w5.cell? ⟨bx, 1, none⟩ = some (.int .i64 (n : Int)) from fun w5 hf => (hf.at HJ3.out.bo HGB.out).cell (i := 1) rfl)
        have hg9a : ∀ g, rown { R with st := R.st + 1 } g → ¬ g = g9 := by
          intro g hg e
          have t := row_tag HO3.out rfl (g := g9)
          rw [← e] at t
          rcases HJ3.out.ok.tag hg with h | h | h | h | h <;> rw [t] at h <;> cases h
        have hg9b : ∀ g, rrd { R with st := R.st + 1 } g → ¬ g = g9 := by
          intro g hg e
          have t := (World.ownsRow.lt HO3.out g9 rfl).1
          have := HN.out.ltr (k := g) hg
          omega
        have HG9 := Hid.of (And.intro hg9a hg9b)
        clear hsp hgb hY hy2 hg9a hg9b
        go_wp2
        refine wp_region_held_drew (S := fun w2 => Fr (fun q => q = g9) w3 w2) (by kernel_rfl) ((Fr.refl _ _).up (Up.refl _).drew) (fun hS => ?_)
        refine wpAnyH_take (i := 0) (oi := { dst := some 107, op := Go.Op.move (Go.Operand.tmp 9), type := 47, pos := "ref.go:147", after := #[], guard := none }) (v := .slice (some ⟨g9, 0, none⟩) d.length mc) rfl (by kernel_rfl) (by kernel_rfl) (by kernel_rfl) (fun _ _ _ h => h) (Or.inl ⟨by kernel_rfl, ?_⟩) hS ?_
        · intro w5 hSw
          clear hSw hS
          go_simp
        simp only [Act.put, List.setIfInBounds_toArray, List.set_cons_zero, List.set_cons_succ]
        refine wpAnyH_take (i := 1) (oi := { dst := some 108, op := Go.Op.fieldAddr 97 (Go.Operand.tmp 8) 1, type := 0, pos := "ref.go:147", after := #[], guard := none }) (v := .pointer (some ⟨bx, 1, none⟩)) rfl (by kernel_rfl) (by kernel_rfl) (by kernel_rfl) (fun _ _ _ h => h) (Or.inl ⟨by kernel_rfl, ?_⟩) hS ?_
        · intro w5 hSw
          clear hSw hS
          go_simp
        simp only [Act.put, List.setIfInBounds_toArray, List.set_cons_zero, List.set_cons_succ]
        refine wpAnyH_take (i := 2) (oi := { dst := some 109, op := Go.Op.load 3 (Go.Operand.tmp 108), type := 3, pos := "ref.go:147", after := #[{ on := 1, ground := Go.Ground.data }], guard := none }) (v := .int .i64 (n : Int)) rfl (by kernel_rfl) (by kernel_rfl) (by kernel_rfl) (fun _ _ _ h => h) (Or.inl ⟨by kernel_rfl, ?_⟩) hS ?_
        · intro w5 hSw
          have h0 := HBO.out w5 hSw
          clear hSw hS
          go_simp
        simp only [Act.put, List.setIfInBounds_toArray, List.set_cons_zero, List.set_cons_succ]
        refine wpAnyH_take (i := 3) (oi := { dst := some 110, op := Go.Op.move (Go.Operand.tmp 9), type := 47, pos := "ref.go:147", after := #[], guard := none }) (v := .slice (some ⟨g9, 0, none⟩) d.length mc) rfl (by kernel_rfl) (by kernel_rfl) (by kernel_rfl) (fun _ _ _ h => h) (Or.inl ⟨by kernel_rfl, ?_⟩) hS ?_
        · intro w5 hSw
          clear hSw hS
          go_simp
        simp only [Act.put, List.setIfInBounds_toArray, List.set_cons_zero, List.set_cons_succ]
        refine wpAnyH_take (i := 4) (oi := { dst := some 111, op := Go.Op.fieldAddr 97 (Go.Operand.tmp 8) 1, type := 0, pos := "ref.go:147", after := #[], guard := none }) (v := .pointer (some ⟨bx, 1, none⟩)) rfl (by kernel_rfl) (by kernel_rfl) (by kernel_rfl) (fun _ _ _ h => h) (Or.inl ⟨by kernel_rfl, ?_⟩) hS ?_
        · intro w5 hSw
          clear hSw hS
          go_simp
        simp only [Act.put, List.setIfInBounds_toArray, List.set_cons_zero, List.set_cons_succ]
        refine wpAnyH_take (i := 5) (oi := { dst := some 112, op := Go.Op.load 3 (Go.Operand.tmp 111), type := 3, pos := "ref.go:147", after := #[{ on := 4, ground := Go.Ground.data }], guard := none }) (v := .int .i64 (n : Int)) rfl (by kernel_rfl) (by kernel_rfl) (by kernel_rfl) (fun _ _ _ h => h) (Or.inl ⟨by kernel_rfl, ?_⟩) hS ?_
        · intro w5 hSw
          have h0 := HBO.out w5 hSw
          clear hSw hS
          go_simp
        simp only [Act.put, List.setIfInBounds_toArray, List.set_cons_zero, List.set_cons_succ]
        refine wpAnyH_take (i := 6) (oi := { dst := some 113, op := Go.Op.indexAddr 47 (Go.Operand.tmp 110) (Go.Operand.tmp 112), type := 0, pos := "ref.go:147", after := #[{ on := 3, ground := Go.Ground.data }, { on := 5, ground := Go.Ground.data }], guard := none }) (v := .pointer (some ⟨g9, n, none⟩)) rfl (by kernel_rfl) (by kernel_rfl) (by kernel_rfl) (fun _ _ _ h => h) (Or.inl ⟨by kernel_rfl, ?_⟩) hS ?_
        · intro w5 hSw
          clear hSw hS
          go_simp
        simp only [Act.put, List.setIfInBounds_toArray, List.set_cons_zero, List.set_cons_succ]
        refine wpAnyH_ready (rs := [7]) (by kernel_rfl) (by simp) ?_
        refine AllReadyH.cons (o := { dst := some 114, op := Go.Op.load 5 (Go.Operand.tmp 113), type := 5, pos := "ref.go:147", after := #[{ on := 6, ground := Go.Ground.data }], guard := none }) rfl (fun K hK => ?_) AllReadyH.nil
        rw [if_pos (by kernel_rfl)]
        have h0 := HY.out
        go_simp
        refine hK.out _ _ hS (fun hS2 => ?_)
        clear hK K hS h0
        have hS := hS2
        clear hS2
        refine wpAnyH_take (i := 8) (oi := { dst := some 115, op := Go.Op.binOp Go.BinOp.xor 5 (Go.Operand.tmp 114) (Go.Operand.const (Go.Value.int Go.IntKind.u8 1)) 5, type := 5, pos := "ref.go:147", after := #[{ on := 7, ground := Go.Ground.data }], guard := none }) (v := .int .u8 (y2.toNat : Int)) rfl (by kernel_rfl) (by kernel_rfl) (by kernel_rfl) (fun _ _ _ h => h) (Or.inl ⟨by kernel_rfl, ?_⟩) hS ?_
        · intro w5 hSw
          clear hSw hS
          go_simp
        simp only [Act.put, List.setIfInBounds_toArray, List.set_cons_zero, List.set_cons_succ]
        refine wpAnyH_take (i := 9) (oi := { dst := some 116, op := Go.Op.indexAddr 47 (Go.Operand.tmp 107) (Go.Operand.tmp 109), type := 0, pos := "ref.go:147", after := #[{ on := 0, ground := Go.Ground.data }, { on := 2, ground := Go.Ground.data }, { on := 0, ground := Go.Ground.phase }, { on := 1, ground := Go.Ground.phase }, { on := 2, ground := Go.Ground.phase }, { on := 3, ground := Go.Ground.phase }, { on := 4, ground := Go.Ground.phase }, { on := 5, ground := Go.Ground.phase }, { on := 6, ground := Go.Ground.phase }, { on := 7, ground := Go.Ground.phase }, { on := 8, ground := Go.Ground.phase }], guard := none }) (v := .pointer (some ⟨g9, n, none⟩)) rfl (by kernel_rfl) (by kernel_rfl) (by kernel_rfl) (fun _ _ _ h => h) (Or.inl ⟨by kernel_rfl, ?_⟩) hS ?_
        · intro w5 hSw
          clear hSw hS
          go_simp
        simp only [Act.put, List.setIfInBounds_toArray, List.set_cons_zero, List.set_cons_succ]
        refine wpAnyH_ready (rs := [10]) (by kernel_rfl) (by simp) ?_
        refine AllReadyH.cons (o := { dst := none, op := Go.Op.store 5 (Go.Operand.tmp 116) (Go.Operand.tmp 115), type := 0, pos := "ref.go:147", after := #[{ on := 9, ground := Go.Ground.data }, { on := 8, ground := Go.Ground.data }, { on := 0, ground := Go.Ground.phase }, { on := 1, ground := Go.Ground.phase }, { on := 2, ground := Go.Ground.phase }, { on := 3, ground := Go.Ground.phase }, { on := 4, ground := Go.Ground.phase }, { on := 5, ground := Go.Ground.phase }, { on := 6, ground := Go.Ground.phase }, { on := 7, ground := Go.Ground.phase }, { on := 8, ground := Go.Ground.phase }], guard := none }) rfl (fun K hK => ?_) AllReadyH.nil
        rw [if_pos (by kernel_rfl)]
        have ho : Ow w3.drew w1.heap.size (.slice (some ⟨g9, 0, none⟩) d.length mc) d := ow_up HO3.out (Up.refl w3).drew
        have t9 : w3.drew.frozen? ⟨g9, n, none⟩ = false := own_thaw ho n
        have h0 := HY.out
        have hp := Ow.put ho n y2
        go_simp
        have HJ9 := Hid.of (show SJ w1 (w3.setCell ⟨g9, n, none⟩ (.int .u8 (y2.toNat : Int))).drew R bx 5 (n : Int) from ⟨(HJ3.out.ok.up (Up.refl _).drew).fr ((Fr.refl (fun q => q = g9) _).by (grown_set _ _ _) (fun g hg => .inl (Option.some.inj hg).symm)) HG9.out.1 HG9.out.2, (HJ3.out.bo.up (Up.refl _).drew).by (grown_set _ _ _) (fun e => HGB.out (Option.some.inj e).symm), (HJ3.out.fr.up (Up.refl _).drew).by (grown_set _ _ _) (fun g hg => .inr (by have := (World.ownsRow.lt HO3.out g hg).1; exact this)), HJ3.out.hb⟩)
        have HO9 := Hid.of (show Ow (w3.setCell ⟨g9, n, none⟩ (.int .u8 (y2.toNat : Int))).drew w1.heap.size (.slice (some ⟨g9, 0, none⟩) d.length mc) (d.set n y2) from hp)
        have HF9 := Hid.of (show Fr (fun q => q = g9) w3 (w3.setCell ⟨g9, n, none⟩ (.int .u8 (y2.toNat : Int))).drew from ((Fr.refl (fun q => q = g9) w3).up (Up.refl w3).drew).by (grown_set w3.drew ⟨g9, n, none⟩ (.int .u8 (y2.toNat : Int))) (fun g hg => .inl (Option.some.inj hg).symm))
        clear ho t9 h0 hp
        generalize (w3.setCell ⟨g9, n, none⟩ (.int .u8 (y2.toNat : Int))).drew = w9 at *
        refine hK.out _ _ HF9.out (fun hS2 => ?_)
        clear hK K hS hS2
        refine wpAnyH_done (by kernel_rfl) ?_ _
        rw [← HSP.out] at HO9
        have hC := Rcome_walk w9 { R with st := R.st + 1 } i l ⟨.slice (some ⟨g9, 0, none⟩) d.length mc, spl d n⟩ HJ9.out.ok HL.out (ow_base HO9.out (Nat.zero_le _)) (N := w1.heap.size) (fun g hg => (World.ownsRow.lt HO9.out g hg).1)
        dsimp only at hC
        go_wp2_with fail
        refine hC.mono ?_
        rintro e w4 ⟨rfl, v', h4⟩
        have H4 := Hid.of h4
        clear hC h4
        dsimp only
        go_wp2
        go_ret
        refine ⟨rfl, wWs { R with st := R.st + 1 } i (comeR l ⟨.slice (some ⟨g9, 0, none⟩) d.length mc, spl d n⟩ v'), ?_, Nat.le_succ _, rfl⟩
        rw [HAB.out]
        exact HJ9.out.stp H4.out
      · have hndz : ¬ (n : Int) < (d.length : Int) := by omega
        have HAB := Hid.of (show SendA (absR R) i d = putA (absR { R with st := R.st + 1 }) i d by
          unfold SendA
          rw [HPR.out]
          unfold sendA
          dsimp only
          rw [if_neg (by decide), if_neg (by decide), if_neg (by decide), if_neg (by decide), if_neg (by decide), if_pos rfl]
          rw [postA, if_pos rfl]
          rw [show spl d (n : Int).toNat = d from spl_out (by rw [Int.toNat_natCast]; omega)])
        have hC := Rcome_walk w3 { R with st := R.st + 1 } i l ⟨.slice ma d.length mc, d⟩ HJ3.out.ok HL.out (ow_base HO3.out (Nat.zero_le _)) (N := w1.heap.size) (fun g hg => (World.ownsRow.lt HO3.out g hg).1)
        dsimp only at hC
        go_wp2_with fail
        refine hC.mono ?_
        rintro e w4 ⟨rfl, v', h4⟩
        have H4 := Hid.of h4
        clear hC h4
        dsimp only
        go_wp2
        go_ret
        refine ⟨rfl, wWs { R with st := R.st + 1 } i (comeR l ⟨.slice ma d.length mc, d⟩ v'), ?_, Nat.le_succ _, rfl⟩
        rw [HAB.out]
        exact HJ3.out.stp H4.out
  · have hprz : ¬ (R.st : Int) < (R.fs.length : Int) := by omega
    have HPR := Hid.of (next_none hpr)
    refine wp_region_held_drew (S := fun w2 => Up W0 w2) (by kernel_rfl) (Up.refl W0).drew (fun hS => ?_)
    refine wpAnyH_take (i := 0) (oi := { dst := some 26, op := Go.Op.move (Go.Operand.tmp 0), type := 35, pos := "ref.go:127", after := #[], guard := none }) (v := .pointer (some ⟨R.nb, 0, none⟩)) rfl (by kernel_rfl) (by kernel_rfl) (by kernel_rfl) (fun _ _ _ h => h) (Or.inl ⟨by kernel_rfl, ?_⟩) hS ?_
    · intro w5 hSw
      clear hSw hS
      go_simp
    simp only [Act.put, List.setIfInBounds_toArray, List.set_cons_zero, List.set_cons_succ]
    refine wpAnyH_take (i := 1) (oi := { dst := some 27, op := Go.Op.nilCheck (Go.Operand.tmp 26), type := 0, pos := "ref.go:127", after := #[{ on := 0, ground := Go.Ground.data }], guard := none }) (v := .pointer (some ⟨R.nb, 0, none⟩)) rfl (by kernel_rfl) (by kernel_rfl) (by kernel_rfl) (fun _ _ _ h => h) (Or.inl ⟨by kernel_rfl, ?_⟩) hS ?_
    · intro w5 hSw
      clear hSw hS
      go_simp
    simp only [Act.put, List.setIfInBounds_toArray, List.set_cons_zero, List.set_cons_succ]
    refine wpAnyH_take (i := 2) (oi := { dst := some 28, op := Go.Op.fieldAddr 114 (Go.Operand.tmp 27) 2, type := 0, pos := "ref.go:127", after := #[{ on := 1, ground := Go.Ground.data }], guard := none }) (v := .pointer (some ⟨R.nb, 2, none⟩)) rfl (by kernel_rfl) (by kernel_rfl) (by kernel_rfl) (fun _ _ _ h => h) (Or.inl ⟨by kernel_rfl, ?_⟩) hS ?_
    · intro w5 hSw
      clear hSw hS
      go_simp
    simp only [Act.put, List.setIfInBounds_toArray, List.set_cons_zero, List.set_cons_succ]
    refine wpAnyH_take (i := 3) (oi := { dst := some 29, op := Go.Op.load 3 (Go.Operand.tmp 28), type := 3, pos := "ref.go:127", after := #[{ on := 2, ground := Go.Ground.data }], guard := none }) (v := .int .i64 (R.st : Int)) rfl (by kernel_rfl) (by kernel_rfl) (by kernel_rfl) (fun _ _ _ h => h) (Or.inl ⟨by kernel_rfl, ?_⟩) hS ?_
    · intro w5 hSw
      have h0 := HC2.out w5 hSw
      clear hSw hS
      go_simp
    simp only [Act.put, List.setIfInBounds_toArray, List.set_cons_zero, List.set_cons_succ]
    refine wpAnyH_take (i := 4) (oi := { dst := some 30, op := Go.Op.move (Go.Operand.tmp 0), type := 35, pos := "ref.go:127", after := #[], guard := none }) (v := .pointer (some ⟨R.nb, 0, none⟩)) rfl (by kernel_rfl) (by kernel_rfl) (by kernel_rfl) (fun _ _ _ h => h) (Or.inl ⟨by kernel_rfl, ?_⟩) hS ?_
    · intro w5 hSw
      clear hSw hS
      go_simp
    simp only [Act.put, List.setIfInBounds_toArray, List.set_cons_zero, List.set_cons_succ]
    refine wpAnyH_take (i := 5) (oi := { dst := some 31, op := Go.Op.nilCheck (Go.Operand.tmp 30), type := 0, pos := "ref.go:127", after := #[{ on := 4, ground := Go.Ground.data }], guard := none }) (v := .pointer (some ⟨R.nb, 0, none⟩)) rfl (by kernel_rfl) (by kernel_rfl) (by kernel_rfl) (fun _ _ _ h => h) (Or.inl ⟨by kernel_rfl, ?_⟩) hS ?_
    · intro w5 hSw
      clear hSw hS
      go_simp
    simp only [Act.put, List.setIfInBounds_toArray, List.set_cons_zero, List.set_cons_succ]
    refine wpAnyH_take (i := 6) (oi := { dst := some 32, op := Go.Op.fieldAddr 114 (Go.Operand.tmp 31) 1, type := 0, pos := "ref.go:127", after := #[{ on := 5, ground := Go.Ground.data }], guard := none }) (v := .pointer (some ⟨R.nb, 1, none⟩)) rfl (by kernel_rfl) (by kernel_rfl) (by kernel_rfl) (fun _ _ _ h => h) (Or.inl ⟨by kernel_rfl, ?_⟩) hS ?_
    · intro w5 hSw
      clear hSw hS
      go_simp
    simp only [Act.put, List.setIfInBounds_toArray, List.set_cons_zero, List.set_cons_succ]
    refine wpAnyH_take (i := 7) (oi := { dst := some 33, op := Go.Op.load 92 (Go.Operand.tmp 32), type := 92, pos := "ref.go:127", after := #[{ on := 6, ground := Go.Ground.data }], guard := none }) (v := .slice fa R.fs.length fp) rfl (by kernel_rfl) (by kernel_rfl) (by kernel_rfl) (fun _ _ _ h => h) (Or.inl ⟨by kernel_rfl, ?_⟩) hS ?_
    · intro w5 hSw
      have h0 := HC1.out w5 hSw
      clear hSw hS
      go_simp
    simp only [Act.put, List.setIfInBounds_toArray, List.set_cons_zero, List.set_cons_succ]
    refine wpAnyH_take (i := 8) (oi := { dst := some 34, op := Go.Op.call { callee := Go.Callee.builtin Go.Builtin.len, args := #[Go.Operand.tmp 33], argTypes := #[92] }, type := 3, pos := "ref.go:127", after := #[{ on := 7, ground := Go.Ground.data }], guard := none }) (v := .int .i64 (R.fs.length : Int)) rfl (by kernel_rfl) (by kernel_rfl) (by kernel_rfl) (fun _ _ _ h => h) (Or.inl ⟨by kernel_rfl, ?_⟩) hS ?_
    · intro w5 hSw
      clear hSw hS
      go_simp
    simp only [Act.put, List.setIfInBounds_toArray, List.set_cons_zero, List.set_cons_succ]
    refine wpAnyH_take (i := 9) (oi := { dst := some 35, op := Go.Op.binOp Go.BinOp.lss 3 (Go.Operand.tmp 29) (Go.Operand.tmp 34) 3, type := 4, pos := "ref.go:127", after := #[{ on := 3, ground := Go.Ground.data }, { on := 8, ground := Go.Ground.data }], guard := none }) (v := .bool false) rfl (by kernel_rfl) (by kernel_rfl) (by kernel_rfl) (fun _ _ _ h => h) (Or.inl ⟨by kernel_rfl, ?_⟩) hS ?_
    · intro w5 hSw
      clear hSw hS
      go_simp
    simp only [Act.put, List.setIfInBounds_toArray, List.set_cons_zero, List.set_cons_succ]
    refine wpAnyH_done (by kernel_rfl) ?_ _
    have HF1 := Hid.of ((Fr.refl (fun k => k = bx) W0).up (Up.refl W0).drew)
    have HB1 := Hid.of (HB0.out.up (Up.refl W0).drew)
    generalize W0.drew = W1 at *
    have HUW := Hid.of (show Fr (fun _ => False) w1 W1 from ⟨HF1.out.os.trans HU0.out.os, HF1.out.tape.trans HU0.out.tape, HF1.out.output.trans HU0.out.output, Nat.le_trans HU0.out.size HF1.out.size, fun j hj _ => (HF1.out.block j (Nat.lt_of_lt_of_le hj HU0.out.size) (fun e => by have := HBE.out; omega)).trans (HU0.out.block j hj)⟩)
    have HN1 := Hid.of (HN.out.fr HUW.out (fun _ _ h => h) (fun _ _ h => h))
    have c2 := HN1.out.net.cell (i := 2) rfl
    have t2 := HN1.out.net.thaw 2
    have hA2 := HN1.out.net.set 2 (.int .i64 ((R.st : Int) + 1))
    simp only [List.set_cons_zero, List.set_cons_succ] at hA2
    have hg2 := grown_at W1 R.nb 2 (.int .i64 ((R.st : Int) + 1))
    have hbn : bx ≠ R.nb := by have := lt_of_at HN.out.net; have := HBE.out; omega
    have HSJ := Hid.of (show SJ w1 (W1.setCell ⟨R.nb, 2, none⟩ (.int .i64 ((R.st : Int) + 1))) R bx 0 0 from ⟨HN1.out.netw hg2 R.now (R.st + 1) hA2, HB1.out.by hg2 (fun e => hbn (Option.some.inj e).symm), (HUW.out.weak (fun _ h => h.elim)).by hg2 (fun g hg => .inl (.inl (Option.some.inj hg).symm)), by have := HBE.out; omega⟩)
    clear hA2 hg2 hbn HUW HN1 HF1 HB1
    go_wp2_with fail
    have HCP := Hid.of (Rcopied_walk (W1.setCell ⟨R.nb, 2, none⟩ (.int .i64 ((R.st : Int) + 1))) _ d (HSJ.out.sb HD.out HV.out) (by omega))
    generalize W1.setCell ⟨R.nb, 2, none⟩ (.int .i64 ((R.st : Int) + 1)) = W2 at *
    clear c2 t2
    refine HCP.out.mono ?_
    rintro e w3 ⟨v3, rfl, o3, u3⟩
    have HO3 := Hid.of (show Ow w3 w1.heap.size v3 d from ow_base o3 HSJ.out.fr.size)
    have HJ3 := Hid.of (HSJ.out.up u3)
    clear o3 u3 HSJ HCP
    dsimp only
    have k0 := HJ3.out.bo.cell (i := 0) rfl
    have k1 := HJ3.out.bo.cell (i := 1) rfl
    obtain ⟨ma, mc, rfl, hmc, _⟩ := Ow.sb HO3.out
    have HAB := Hid.of (show SendA (absR R) i d = putA (absR { R with st := R.st + 1 }) i d by
      unfold SendA
      rw [HPR.out]
      unfold sendA
      dsimp only
      rw [if_pos rfl]
      rw [postA, if_pos rfl])
    have hC := Rcome_walk w3 { R with st := R.st + 1 } i l ⟨.slice ma d.length mc, d⟩ HJ3.out.ok HL.out (ow_base HO3.out (Nat.zero_le _)) (N := w1.heap.size) (fun g hg => (World.ownsRow.lt HO3.out g hg).1)
    dsimp only at hC
    go_wp2_with fail
    refine hC.mono ?_
    rintro e w4 ⟨rfl, v', h4⟩
    have H4 := Hid.of h4
    clear hC h4
    dsimp only
    go_wp2
    go_ret
    refine ⟨rfl, wWs { R with st := R.st + 1 } i (comeR l ⟨.slice ma d.length mc, d⟩ v'), ?_, Nat.le_succ _, rfl⟩
    rw [HAB.out]
    exact HJ3.out.stp H4.out
end Go.Proofs.Ytdlfkdehfenemaa
