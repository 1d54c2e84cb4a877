/- Names in a row of one's own; what all but some places leaves. -/
import Derived.Test.YtbofidpoajdcmabCdGet
import Derived.Test.YtbofidpoajdcmabCdAre
import Derived.Test.YtbofidpoajdcmabTrOwn
import Derived.Maps.AppendAt
namespace Go.Proofs.Ytbofidpoajdcmab.Cd
open Go.RowKit Cu Tr

def entCells (es : List En) : List Value := es.flatMap ec
theorem entCells_length (es : List En) : (entCells es).length = es.length * 2 := by
  induction es with
  | nil => rfl
  | cons e l ih => simp [entCells, ec] at ih ⊢; omega
theorem entCells_get (l : List En) (i j : Nat) (h : i < l.length) (hj : j < 2) : (entCells l)[i * 2 + j]? = (ec (en l i))[j]? := by
  induction l generalizing i with
  | nil => simp at h
  | cons r l ih =>
    have e : entCells (r :: l) = ec r ++ entCells l := by simp [entCells]
    rw [e]
    cases i with
    | zero => rw [List.getElem?_append_left (by simp [ec]; omega)]; simp [en]
    | succ i =>
      rw [List.getElem?_append_right (by simp [ec]; omega), show (i + 1) * 2 + j - (ec r).length = i * 2 + j by simp [ec]; omega, ih i (by simpa using h)]
      simp [en]
theorem entCells_snoc (es : List En) (e : En) : entCells (es ++ [e]) = entCells es ++ ec e := by simp [entCells]
abbrev RowE (B : Nat) (v : Value) (es : List En) (w : World) : Prop := w.ownsRow B 88 2 v es.length (entCells es)
abbrev RowN (B : Nat) (v : Value) (l : List Nv) (w : World) : Prop := w.ownsRow B 70 10 v l.length (cellsOf l)
theorem own_keep9 {w w' : World} {B : Nat} {e : TypeId} {s : Nat} {v : Value} {n : Nat} {xs : List Value} (h : w.ownsRow B e s v n xs) (hk : ∀ k, v.ownBlock = some k → w'.heap[k]? = w.heap[k]?) : w'.ownsRow B e s v n xs := by
  refine ⟨h.1, ?_⟩
  rcases h.2 with h0 | ⟨g, c, cur, rfl, e1, e2, e3⟩
  · exact .inl h0
  · exact .inr ⟨g, c, cur, rfl, e1, (hk g rfl).trans e2, e3⟩
theorem own_at9 {w : World} {B : Nat} {e : TypeId} {s : Nat} {v : Value} {n : Nat} {xs : List Value} (h : w.ownsRow B e s v n xs) : ∀ k, v.ownBlock = some k → B ≤ k ∧ k < w.heap.size := fun k hk => h.lt k hk
theorem own_ty9 {w : World} {B : Nat} {e : TypeId} {s : Nat} {v : Value} {n : Nat} {xs : List Value} (h : w.ownsRow B e s v n xs) {k : Nat} (hv : v.ownBlock = some k) : ∃ cur, w.heap[k]? = some (.cells cur e (0, 0)) := by
  rcases h.2 with ⟨rfl, _⟩ | ⟨g, c, cur, rfl, e1, e2, e3⟩
  · cases hv
  · cases hv; exact ⟨cur, e2⟩
theorem own_base9 {w : World} {B B' : Nat} {e : TypeId} {s : Nat} {v : Value} {n : Nat} {xs : List Value} (h : w.ownsRow B e s v n xs) (hb : B' ≤ B) : w.ownsRow B' e s v n xs := by
  refine ⟨h.1, ?_⟩
  rcases h.2 with h0 | ⟨g, c, cur, rfl, e1, e2, e3⟩
  · exact .inl h0
  · exact .inr ⟨g, c, cur, rfl, Nat.le_trans hb e1, e2, e3⟩
theorem own_fr9 {S : List Addr} {w w' : World} {B : Nat} {e : TypeId} {s : Nat} {v : Value} {n : Nat} {xs : List Value} (h : w.ownsRow B e s v n xs) (hf : Fr S w w') (hs : ∀ k, v.ownBlock = some k → ∀ p ∈ S, p.block ≠ k) : w'.ownsRow B e s v n xs :=
  own_keep9 h fun k hk => hf.block k (h.lt k hk).2 (hs k hk)
theorem own_slice9 {w : World} {B : Nat} {e : TypeId} {s : Nat} {v : Value} {n : Nat} {xs : List Value} (h : w.ownsRow B e s v n xs) : ∃ a c, v = .slice a n c := by
  rcases h.2 with ⟨rfl, rfl⟩ | ⟨g, cap, cur, rfl, _⟩
  · exact ⟨none, 0, rfl⟩
  · exact ⟨_, _, rfl⟩
theorem own_nil9 (w : World) (B : Nat) (e : TypeId) (s : Nat) : w.ownsRow B e s (.slice none 0 0) 0 [] := ⟨by simp, .inl ⟨rfl, rfl⟩⟩
theorem Fr.off {S S' : List Addr} {w w1 w2 : World} (h : Fr S w w1) (h' : Fr S' w1 w2) (hs : ∀ p ∈ S', p ∈ S ∨ w.heap.size ≤ p.block) : Fr S w w2 := by
  refine ⟨h'.os.trans h.os, h'.tape.trans h.tape, h'.output.trans h.output, Nat.le_trans h.size h'.size, fun k hk hn => ?_, fun p hp hn => ?_, fun p hp => (h'.frozen p (Nat.lt_of_lt_of_le hp h.size)).trans (h.frozen p hp)⟩
  · refine (h'.block k (Nat.lt_of_lt_of_le hk h.size) (fun p hp e => ?_)).trans (h.block k hk hn)
    rcases hs p hp with h1 | h1
    · exact hn p h1 e
    · omega
  · refine (h'.cell p (Nat.lt_of_lt_of_le hp h.size) (fun e => ?_)).trans (h.cell p hp hn)
    rcases hs p e with h1 | h1
    · exact hn h1
    · omega
theorem row_eg {w : World} {B : Nat} {v : Value} {es : List En} (h2 : RowE B v es w) : ∃ la lc, v = .slice la es.length lc ∧ Eg w la es.length lc es := by
  rcases h2.2 with ⟨hv, h0⟩ | ⟨g, cap, cur, hv, hb, hg, hle, hmx, hsz, htk⟩
  · exact ⟨none, 0, by rw [hv, h0], by simp, by omega, fun _ => ⟨h0, rfl⟩, .inl h0⟩
  · refine ⟨some ⟨g, 0, none⟩, cap, hv, rfl, hle, (by intro q; cases q), .inr ⟨g, 0, rfl, (Array.getElem?_eq_some_iff.1 hg).1, fun i hi => ?_⟩⟩
    rw [hv] at h2
    have c0 := h2.cellAt (i * 2 + 0) (by omega)
    have c1 := h2.cellAt (i * 2 + 1) (by omega)
    rw [entCells_get _ i 0 hi (by omega)] at c0
    rw [entCells_get _ i 1 hi (by omega)] at c1
    rw [Nat.zero_add]
    exact ⟨c0, c1⟩
/-- what a node holds is one's own -/
def Hd (B : Nat) (w : World) (x : Nv) : Prop := Row B x.2.1 x.1.data w ∧ RowE B x.2.2 x.1.list w
/-- two nodes hold nothing in common -/
def Apt (x y : Nv) : Prop := (∀ k, x.2.1.ownBlock = some k → y.2.1.ownBlock ≠ some k) ∧ (∀ k, x.2.2.ownBlock = some k → y.2.2.ownBlock ≠ some k)
theorem ox_of {B : Nat} {w : World} {x : Nv} (h : Hd B w x) : Ox w x := by
  obtain ⟨h1, h2⟩ := h
  obtain ⟨da, dc, q1, q2, _⟩ := row_by h1
  obtain ⟨la, lc, q3, q4⟩ := row_eg h2
  exact ⟨da, dc, la, lc, q1, q3, q2, q4⟩
theorem infoEnt : (Try.prog.info? 88).map (fun i => (i.zero, i.size, i.bytes)) = some (some (.agg #[.string ⟨#[]⟩, .int .i64 0]), 2, 24) := by kernel_rfl
theorem infoNod : (Try.prog.info? 70).map (fun i => (i.zero, i.size, i.bytes)) = some (some (.agg #[.int .u8 0, .int .i64 0, .int .i64 0, .int .i64 0, .int .i64 0, .int .i64 0, .slice none 0 0, .string ⟨#[]⟩, .slice none 0 0, .int .i64 0]), 10, 120) := by kernel_rfl
end Go.Proofs.Ytbofidpoajdcmab.Cd
