import Derived.Test.YtdlfkdehfenemaaCc
namespace Go.Proofs.Ytdlfkdehfenemaa
open Go.RowKit Go.Conc TextNum
/-- a net that the law itself has made -/
structure LJ (w wr : World) (S : NS) (A : AN) (k : Nat) : Prop where
  ok : NOk wr S
  so : SOk S
  ab : abs S = A
  mn : S.mn ≤ k
  fr : ∀ x, own S x → w.heap.size ≤ x
  up : Up w wr
theorem LJ.st {w wr w2 : World} {S S' : NS} {A A' : AN} {N k k' : Nat} (h : LJ w wr S A k) (s : Stp N k' wr w2 S S' A') : LJ w w2 S' A' (k + k') :=
  ⟨s.ok, s.so, s.ab, by have := h.mn; have := s.mn; omega, fun x hx => (s.no x hx).elim (h.fr x) (fun h1 => Nat.le_trans h.up.size h1),
   ⟨s.fr.os.trans h.up.os, s.fr.tape.trans h.up.tape, s.fr.output.trans h.up.output, Nat.le_trans h.up.size s.fr.size, fun x hx => (s.fr.block x (Nat.lt_of_lt_of_le hx h.up.size) (fun e => by have := h.fr x e; omega)).trans (h.up.block x hx)⟩⟩
theorem LJ.up' {w wr w2 : World} {S : NS} {A : AN} {k : Nat} (h : LJ w wr S A k) (u : Up wr w2) : LJ w w2 S A k := ⟨h.ok.up u, h.so, h.ab, h.mn, h.fr, h.up.trans u⟩
/-- bytes of one's own are no net's -/
theorem u8_not_own {w : World} {S : NS} (h : NOk w S) {B : Nat} {v : Value} {d : List UInt8} (o : Ow w B v d) : ∀ g, v.ownBlock = some g → ¬ own S g := fun g hg hk => by
  have t := row_tag o hg
  rcases h.tag hk with e | e | e | e | e <;> rw [t] at e <;> cases e
theorem Stp.ow {N k : Nat} {w w' : World} {S S' : NS} {A : AN} (s : Stp N k w w' S S' A) (h : NOk w S) {B : Nat} {v : Value} {d : List UInt8} (o : Ow w B v d) : Ow w' B v d := s.fr.own o (u8_not_own h o)
theorem LJ.now {w wr : World} {S : NS} {A : AN} {k : Nat} (h : LJ w wr S A k) : S.now = A.now := by rw [← h.ab]; rfl
/-- a lane as the state without memory has it -/
theorem abs_get {S : NS} {A : AN} (h : abs S = A) {i : Nat} {x : List (List UInt8) × Bool} (hx : A.ls[i]? = some x) : ∃ l, S.ls[i]? = some l ∧ l.sh = x.2 ∧ l.ms.map (·.d) = x.1 := by
  subst h
  rw [show (abs S).ls[i]? = (S.ls.map absL)[i]? from rfl, List.getElem?_map] at hx
  cases hl : S.ls[i]? with
  | none => rw [hl] at hx; cases hx
  | some l =>
    rw [hl] at hx
    obtain rfl := Option.some.inj hx
    exact ⟨l, rfl, rfl, rfl⟩
theorem LJ.new {w w' : World} {S : NS} {A : AN} (h1 : NOk w' S) (h2 : SOk S) (h3 : abs S = A) (h4 : S.mn = 0) (h5 : Up w w') (h6 : ∀ x, own S x → w.heap.size ≤ x) : LJ w w' S A 0 := ⟨h1, h2, h3, by omega, h6, h5⟩
/-- the calls on a net of one's own -/
theorem LJ.send {w wr : World} {S : NS} {A : AN} {k : Nat} (h : LJ w wr S A k) (i : Nat) (v : Value) (d : List UInt8) {x : List (List UInt8)} (hx : A.ls[i]? = some (x, false)) (hd : Sb wr v d) (ho : ∀ g, v.ownBlock = some g → otag wr g = some 5) (hdl : d.length ≤ 1048576) (hn : A.now ≤ 2305843009213693952) (hk : k ≤ 549755813888) :
    Calls Try.prog 18 #[.pointer (some ⟨S.nb, 0, none⟩), .int .i64 (i : Int), v] wr fun e w' => e = .returned (.int .i64 0) ∧ ∃ S', Stp wr.heap.size 1 wr w' S S' (SendA A i d) := by
  obtain ⟨l, hl, hs, _⟩ := abs_get h.ab hx
  refine (Send_yes wr S i l v d h.ok h.so hl hs hd hdl (fun g hg hk => ?_) (by rw [h.now]; exact hn) (by have := h.mn; omega)).mono ?_
  · have t := ho g hg
    rcases h.ok.tag hk with e | e | e | e | e <;> rw [t] at e <;> cases e
  · rintro e w' ⟨rfl, S', h1, _⟩
    rw [h.ab] at h1
    exact ⟨rfl, S', h1⟩
theorem LJ.wait {w wr : World} {S : NS} {A : AN} {k : Nat} (h : LJ w wr S A k) (i n : Nat) {x : List (List UInt8) × Bool} (hx : A.ls[i]? = some x) (hn : n ≤ 65536) (hnow : A.now ≤ 2305843009213693952) (hk : k ≤ 1099511627776) :
    Calls Try.prog 19 #[.pointer (some ⟨S.nb, 0, none⟩), .int .i64 (i : Int), .int .i64 (n : Int)] wr fun e w' => ∃ mv, e = .returned (.tuple #[mv, .int .i64 (awA n A [i]).1.2.2]) ∧ Ow w' 0 mv (awA n A [i]).1.2.1 ∧ ∃ S', Stp wr.heap.size 0 wr w' S S' (awA n A [i]).2 := by
  obtain ⟨l, hl, hs, _⟩ := abs_get h.ab hx
  refine (Wait_yes wr S i n l h.ok h.so hl hn (by rw [h.now]; exact hnow) (by have := h.mn; omega)).mono ?_
  rw [h.ab]
  rintro e w' ⟨mv, rfl, h1, S', h2, _⟩
  exact ⟨mv, rfl, h1, S', h2⟩
end Go.Proofs.Ytdlfkdehfenemaa
