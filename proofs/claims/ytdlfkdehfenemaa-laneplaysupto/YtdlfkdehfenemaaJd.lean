import Derived.Test.YtdlfkdehfenemaaJc
import Derived.Laws.StructEq
import Derived.ChangeKeysEq
namespace Go.Proofs.Ytdlfkdehfenemaa
open Go.RowKit Go.Conc TextNum
/-! ### == of fates -/
theorem eqF (a b : Int) (w : World) : (Op.equalIn 10000 58 (.agg #[.int .i64 a, .int .i64 b]) (.agg #[.int .i64 a, .int .i64 b])).run Try.prog w = .ok true w := by
  have u3 := Try.underlying3
  have a3 := Try.isAgg3
  have z3 := Try.sizeOf3
  have hS : Try.prog.underlying 58 = some (.struct (Try.prog.fieldsOf 58)) := by kernel_rfl
  have hp : Try.prog.stoodInHeld 58 = false := by kernel_rfl
  rw [show (10000 : Nat) = 9999 + 1 from rfl, run_equalIn_agg w 9999 58 _ _ hS hp]
  simp only [Program.fieldsOf, Try.underlying58]
  go_simp
theorem exec_eqlF {op : Oper} {ρ : Operand → Value} {x y : Operand} {t : TypeId} (ho : op.op = .binOp .eql 58 x y t) (a b : Int) (hx : ρ x = .agg #[.int .i64 a, .int .i64 b]) (hy : ρ y = .agg #[.int .i64 a, .int .i64 b]) (w : World) : (execOp ρ op).run Try.prog w = .ok (.value (.bool true)) w := by
  have hq := eqF a b w
  unfold execOp
  simp only [ho, hx, hy, Sem.run_bind, run_eqGuard_agg (P := Try.prog) (w := w) .eql 58 x y _ _ Try.eqGuardType58, run_eql_struct, hq, Result.andThen_ok, Sem.run_pure]
/-! ### rows of fates -/
theorem flc_len (gs : List (Int × Int)) : (gs.flatMap fc).length = gs.length * 2 := by
  induction gs with
  | nil => rfl
  | cons g r ih => simp only [List.flatMap_cons, List.length_append, ih, List.length_cons, fc, List.length_nil]; omega
theorem fl_get (gs : List (Int × Int)) : ∀ (j : Nat) (h : j < gs.length) (i : Nat) (u : Value), (fc gs[j])[i]? = some u → (gs.flatMap fc)[j * 2 + i]? = some u := by
  induction gs with
  | nil => intro j h; cases h
  | cons g r ih =>
    intro j h i u hu
    have hi : i < 2 := (List.getElem?_eq_some_iff.1 hu).1
    rw [List.flatMap_cons]
    cases j with
    | zero => rw [List.getElem?_append_left (by simp [fc]; omega)]; simpa using hu
    | succ j =>
      rw [List.getElem?_append_right (by simp [fc]; omega)]
      have := ih j (by simpa using h) i u (by simpa using hu)
      rw [show (j + 1) * 2 + i - (fc g).length = j * 2 + i by simp [fc]; omega]
      exact this
theorem fl_set (gs : List (Int × Int)) : ∀ (j : Nat), j < gs.length → ∀ q, (gs.set j q).flatMap fc = (gs.flatMap fc).take (j * 2) ++ fc q ++ (gs.flatMap fc).drop (j * 2 + 2) := by
  induction gs with
  | nil => intro j h; cases h
  | cons g r ih =>
    intro j h q
    cases j with
    | zero => simp [fc]
    | succ j =>
      have := ih j (by simpa using h) q
      rw [List.set_cons_succ, List.flatMap_cons, this, List.flatMap_cons, show (j + 1) * 2 = (fc g).length + j * 2 by simp [fc]; omega, List.take_length_add_append, Nat.add_assoc, List.drop_length_add_append]
      simp
theorem row_get {w : World} {B c : Nat} {e : TypeId} {a : Option Addr} {gs : List (Int × Int)} (h : w.ownsRow B e 2 (.slice a gs.length c) gs.length (gs.flatMap fc)) {j : Nat} (hj : j < gs.length) : ∃ g, a = some ⟨g, 0, none⟩ ∧ gs.length ≤ c ∧ w.rangeAt g (j * 2) (fc gs[j]) := by
  rcases h.2 with ⟨_, h0⟩ | ⟨g, cap, cur, e1, _, hg, hc, _⟩
  · omega
  · injection e1 with e1 e2 e3
    subst e1 e3
    refine ⟨g, rfl, hc, fun i u hu => ?_⟩
    have := World.ownsRow.cells h rfl (j * 2 + i) u (fl_get gs j hj i u hu)
    rw [Addr.add_lit, Nat.zero_add] at this
    exact this
/-- one of a row is written over -/
theorem row_set {w : World} {B g c : Nat} {e : TypeId} {gs : List (Int × Int)} (h : w.ownsRow B e 2 (.slice (some ⟨g, 0, none⟩) gs.length c) gs.length (gs.flatMap fc)) {j : Nat} (hj : j < gs.length) (q : Int × Int) :
    w.there g (j * 2) 2 ∧ (w.setCells g (j * 2) (fc q)).ownsRow B e 2 (.slice (some ⟨g, 0, none⟩) gs.length c) gs.length ((gs.set j q).flatMap fc) := by
  rcases h.2 with ⟨h0, _⟩ | ⟨g', cap, cur, e1, hb, hg, hc, hm, hs, ht⟩
  · cases h0
  · injection e1 with e1 e2 e3
    obtain rfl : g = g' := by injection e1 with e1; injection e1
    subst e3
    have hA : At w g e cur.toList := by unfold At; rw [hg]
    have hl : cur.toList.length = c * 2 := by simpa using hs
    have hjl : j * 2 + (fc q).length ≤ cur.toList.length := by rw [hl]; simp only [fc, List.length_cons, List.length_nil]; omega
    have hA2 := at_sets (fc q) (j * 2) hA hjl
    refine ⟨fun i hi => ?_, by rw [flc_len, List.length_set], .inr ⟨g, c, _, rfl, hb, hA2, hc, hm, ?_, ?_⟩⟩
    · have h1 := hA.cell (i := j * 2 + i) (List.getElem?_eq_getElem (by rw [hl]; omega))
      exact ⟨by rw [h1]; rfl, hA.thaw _⟩
    · simp only [List.size_toArray, List.length_append, List.length_take, List.length_drop, hl]
      simp only [fc, List.length_cons, List.length_nil]
      omega
    · rw [fl_set gs j hj q, ← ht]
      have e2 : (fc q).length = 2 := rfl
      rw [e2, List.toList_toArray, List.take_append, List.take_append, List.take_take, List.take_take, List.drop_take]
      rw [Nat.min_eq_right (by omega : j * 2 ≤ gs.length * 2), Nat.min_eq_left (by omega : j * 2 ≤ gs.length * 2)]
      have l1 : (cur.toList.take (j * 2)).length = j * 2 := by rw [List.length_take]; omega
      rw [List.length_append, l1, e2, List.take_of_length_le (l := fc q) (by rw [e2]; omega)]
theorem FR.of_row {w : World} {B : Nat} {e : TypeId} {v : Value} {gs : List (Int × Int)} (h : w.ownsRow B e 2 v gs.length (gs.flatMap fc)) : FR w v gs := by
  rcases h.2 with ⟨rfl, h0⟩ | ⟨g, cap, cur, rfl, _, _, hc, _⟩
  · refine ⟨none, 0, by rw [h0], by omega, fun j hj => ?_⟩
    omega
  · refine ⟨_, cap, rfl, hc, fun j hj => ?_⟩
    obtain ⟨g', e1, _, hr⟩ := row_get h hj
    obtain rfl : g = g' := by injection e1 with e1; injection e1
    exact ⟨g, 0, rfl, by rw [Nat.zero_add]; exact hr⟩
theorem Fts.of_row {w : World} {B g c : Nat} {fs r : List (Int × Int)} (h : w.ownsRow B 58 2 (.slice (some ⟨g, 0, none⟩) (fs ++ r).length c) (fs ++ r).length ((fs ++ r).flatMap fc)) : Fts w (.slice (some ⟨g, 0, none⟩) fs.length c) fs := by
  rcases h.2 with ⟨h0, _⟩ | ⟨g', cap, cur, e1, hb, hg, hc, hm, hs, ht⟩
  · cases h0
  · injection e1 with e1 e2 e3
    obtain rfl : g = g' := by injection e1 with e1; injection e1
    subst e3
    refine ⟨_, c, rfl, by rw [List.length_append] at hc; omega, hm, (fun e => by cases e), fun ad e => ?_⟩
    obtain rfl := Option.some.inj e
    refine ⟨rfl, ⟨cur, hg⟩, fun j u hu => World.ownsRow.cells h rfl j u ?_⟩
    rw [List.flatMap_append, List.getElem?_append_left (List.getElem?_eq_some_iff.1 hu).1]
    exact hu
/-- an append in text order that tells where the row is -/
theorem wpList_appFr {ops : Array Oper} {rest : List Oper} {o : Oper} {a : Act} {w : World} {Q : Exit → Act → World → Prop} (hgd : o.guard = none) (s x : Operand) (t : TypeId)
    (ho : o.op = .call { callee := .builtin .append, args := #[s, x], argTypes := #[t, t] })
    (base : Nat) (e : TypeId) (i : TypeInfo) (z : Value) (size bytes : Nat) (ht : Try.prog.underlying t = some (.slice e)) (hi : Try.prog.info? e = some i) (hz : i.zero = some z)
    (hsize : i.size = size) (hby : i.bytes = bytes) (hzs : z.cells.size = size) (hsz : 0 < size)
    (v : Value) (n : Nat) (xs : List Value) (hs : a.eval s = v) (hown : w.ownsRow base e size v n xs)
    (ad : Addr) (m c : Nat) (news : List Value) (hx : a.eval x = .slice (some ad) m c) (hl : news.length = m * size) (hnews : ∀ j u, news[j]? = some u → w.cell? (ad.add j) = some u) (h1 : ∀ u ∈ news, u.oneCell' = true)
    (h63 : n + m ≤ maxLen) (hbytes : (n + m) * bytes ≤ 140737488355328) (hbase : base ≤ w.heap.size)
    (h : ∀ v' w', w'.ownsRow base e size v' (n + m) (xs ++ news) → w.grownBy w' v.ownBlock → Frs w v v' → wpList Try.prog ops Q rest (a.put o.dst v') w') : wpList Try.prog ops Q (o :: rest) a w := by
  obtain ⟨v', w', hap, h5, h6, h7⟩ := run_append_frsN (P := Try.prog) w base t o.type e i z size bytes ht hi hz hsize hby hzs hsz v n xs hown ad m c news hl hnews h1 h63 hbytes hbase
  exact wpList_plain hgd fun K hK => wp_app ho hs hx hap (hK _ _ (h v' w' h5 h6 h7))
/-! ### New, of both sides, whatever it is given -/
def newE (z : Int) (fs : List (Int × Int)) : Int := if z < 1 ∨ 64 < z then 1 else fateE fs
/-- the program's net, new -/
structure NF (w : World) (lo hi : Nat) (S : NS) (n : Nat) (fs : List (Int × Int)) : Prop where
  ok : NOk w S
  so : SOk S
  ab : abs S = ⟨0, fs, List.replicate n ([], false), []⟩
  mn : S.mn = 0
  ow : ∀ x, own S x → lo ≤ x ∧ x < hi
  rd : ∀ x, rds S x → lo ≤ x ∧ x < hi
theorem New_any (w : World) (z : Int) (v : Value) (fs : List (Int × Int)) (hf : Fts w v fs) (hle : fs.length ≤ 4611686018427387904) :
    Calls Try.prog 12 #[.int .i64 z, v] w fun e w' => ∃ a, e = .returned (.tuple #[.pointer a, .int .i64 (newE z fs)]) ∧ Up w w' ∧ ((newE z fs ≠ 0 ∧ a = none) ∨ (newE z fs = 0 ∧ ∃ (S : NS) (n : Nat), z = (n : Int) ∧ 1 ≤ n ∧ n ≤ 64 ∧ a = some ⟨S.nb, 0, none⟩ ∧ NF w' w.heap.size w'.heap.size S n fs)) := by
  by_cases hz : z < 1 ∨ 64 < z
  · have e1 : newE z fs = 1 := if_pos hz
    rw [e1]
    refine (New_lanes w z v hz).mono ?_
    rintro e w' ⟨rfl, rfl⟩
    exact ⟨none, rfl, Up.refl _, .inl ⟨by decide, rfl⟩⟩
  · have e1 : newE z fs = fateE fs := if_neg hz
    rw [e1]
    obtain ⟨n, rfl⟩ : ∃ n : Nat, z = (n : Int) := ⟨z.toNat, by omega⟩
    by_cases he : fateE fs = 0
    · refine (New_yes w n v fs (by omega) (by omega) hf he).mono ?_
      rintro e w' ⟨S, rfl, h1, h2, h3, h4, h5, h6, h7⟩
      refine ⟨_, by rw [he], h5, .inr ⟨he, S, n, rfl, by omega, by omega, rfl, h1, h2, h3, h4, fun x hx => ⟨h6 x hx, h1.lt hx⟩, fun x hx => ⟨h7 x hx, h1.ltr hx⟩⟩⟩
    · refine (New_fates w n v fs (by omega) (by omega) hf hle he).mono ?_
      rintro e w' ⟨rfl, h5⟩
      exact ⟨none, rfl, h5, .inl ⟨he, rfl⟩⟩
/-- the document's net, new -/
structure RN (w : World) (lo hi nb : Nat) (fv wv sv : Value) (fs : List (Int × Int)) (n : Nat) : Prop where
  bx : At w nb 114 [.int .i64 0, fv, .int .i64 0, wv, sv, .slice none 0 0]
  fr : w.ownsRow lo 97 2 fv fs.length (fs.flatMap fc)
  wo : w.ownsRow lo 145 1 wv n (List.replicate n (.slice none 0 0))
  so : w.ownsRow lo 4 1 sv n (List.replicate n (.bool false))
  lo : lo ≤ nb
  hb : nb < hi
  hf : ∀ g, fv.ownBlock = some g → g < hi
  hw : ∀ g, wv.ownBlock = some g → g < hi
  hs : ∀ g, sv.ownBlock = some g → g < hi
theorem RNew_any (w : World) (z : Int) (v : Value) (fs : List (Int × Int)) (hf : FR w v fs) :
    Calls Try.prog 33 #[.int .i64 z, v] w fun e w' => ∃ a, e = .returned (.tuple #[.pointer a, .int .i64 (newE z fs)]) ∧ Up w w' ∧ ((newE z fs ≠ 0 ∧ a = none) ∨ (newE z fs = 0 ∧ ∃ (n : Nat) (nb : Nat) (fv wv sv : Value), z = (n : Int) ∧ a = some ⟨nb, 0, none⟩ ∧ RN w' w.heap.size w'.heap.size nb fv wv sv fs n)) := by
  by_cases hz : z < 1 ∨ 64 < z
  · have e1 : newE z fs = 1 := if_pos hz
    rw [e1]
    refine (RNew_lanes w z v hz).mono ?_
    rintro e w' ⟨rfl, rfl⟩
    exact ⟨none, rfl, Up.refl _, .inl ⟨by decide, rfl⟩⟩
  · have e1 : newE z fs = fateE fs := if_neg hz
    rw [e1]
    obtain ⟨n, rfl⟩ : ∃ n : Nat, z = (n : Int) := ⟨z.toNat, by omega⟩
    refine (RNew_walk w n v fs (by omega) (by omega) hf).mono ?_
    rintro e w' ⟨hu, ⟨he, rfl⟩ | ⟨he, nb, fv, wv, sv, rfl, hnb, hk⟩⟩
    · exact ⟨none, rfl, hu, .inl ⟨he, rfl⟩⟩
    · exact ⟨_, by rw [he], hu, .inr ⟨he, n, nb, fv, wv, sv, rfl, rfl, hk.bx, hk.fr, hk.wo, hk.so, hnb, lt_of_at hk.bx, fun g hg => (hk.fr.lt g hg).2, fun g hg => (hk.wo.lt g hg).2, fun g hg => (hk.so.lt g hg).2⟩⟩
/-- what New has made on both sides, within these blocks -/
def OC (w : World) (lo hi : Nat) (z : Int) (fs : List (Int × Int)) (a r : Option Addr) (on : Bool) : Prop :=
  (on = false ∧ newE z fs ≠ 0 ∧ a = none ∧ r = none) ∨ (on = true ∧ ∃ (S : NS) (n nb : Nat) (fv wv sv : Value), z = (n : Int) ∧ 1 ≤ n ∧ n ≤ 64 ∧ a = some ⟨S.nb, 0, none⟩ ∧ r = some ⟨nb, 0, none⟩ ∧ NF w lo hi S n fs ∧ RN w lo hi nb fv wv sv fs n)
theorem OC.fr {T : Nat → Prop} {w w' : World} {lo hi : Nat} {z : Int} {fs : List (Int × Int)} {a r : Option Addr} {on : Bool} (h : OC w lo hi z fs a r on) (k : Fr T w w') (hT : ∀ g, T g → g < lo ∨ hi ≤ g) : OC w' lo hi z fs a r on := by
  rcases h with h | ⟨ho, S, n, nb, fv, wv, sv, hz, h1, h2, ha, hr, hN, hR⟩
  · exact .inl h
  · have nt : ∀ g, lo ≤ g → g < hi → ¬ T g := fun g h1 h2 h3 => by have := hT g h3; omega
    refine .inr ⟨ho, S, n, nb, fv, wv, sv, hz, h1, h2, ha, hr, ⟨hN.ok.fr k (fun g hg => nt g (hN.ow g hg).1 (hN.ow g hg).2) (fun g hg => nt g (hN.rd g hg).1 (hN.rd g hg).2), hN.so, hN.ab, hN.mn, hN.ow, hN.rd⟩,
      ⟨k.at hR.bx (nt _ hR.lo hR.hb), k.own hR.fr (fun g hg => nt g (hR.fr.lt g hg).1 (hR.hf g hg)), k.own hR.wo (fun g hg => nt g (hR.wo.lt g hg).1 (hR.hw g hg)), k.own hR.so (fun g hg => nt g (hR.so.lt g hg).1 (hR.hs g hg)), hR.lo, hR.hb, hR.hf, hR.hw, hR.hs⟩⟩
theorem OC.up {w w' : World} {lo hi : Nat} {z : Int} {fs : List (Int × Int)} {a r : Option Addr} {on : Bool} (h : OC w lo hi z fs a r on) (k : Up w w') : OC w' lo hi z fs a r on := h.fr (fr_of_up (fun _ => False) k) (fun _ h => h.elim)
end Go.Proofs.Ytdlfkdehfenemaa
