/- Lists of changes in memory; SameChanges where the lists are the same. -/
import Derived.Test.YtijknodbaddelaaGreatDoorMoMap
namespace Go.Proofs.YtijknodbaddelaaGreatDoor.Mo
open Go.RowKit

theorem Tryz.infoCh : (Tryz.prog.info? 54).map (fun i => (i.zero, i.size, i.bytes)) = some (some (.agg #[.int .i64 0, .int .u8 0, .int .i64 0, .int .u8 0, .bool false]), 5, 32) := by kernel_rfl
abbrev cz : Ch := ⟨0, 0, 0, 0, false⟩
/-- the cells of changes -/
def cl (cs : List Ch) : List Value := cs.flatMap cc
theorem cc_length (c : Ch) : (cc c).length = 5 := rfl
theorem cl_length (cs : List Ch) : (cl cs).length = cs.length * 5 := by
  induction cs with
  | nil => rfl
  | cons r l ih => simp [cl, cc] at ih ⊢; omega
theorem cl_snoc (cs : List Ch) (c : Ch) : cl (cs ++ [c]) = cl cs ++ cc c := by simp [cl]
theorem cl_app (cs ds : List Ch) : cl (cs ++ ds) = cl cs ++ cl ds := by simp [cl]
theorem cl_get (cs : List Ch) (i j : Nat) (h : i < cs.length) (hj : j < 5) : (cl cs)[i * 5 + j]? = (cc (cs.getD i cz))[j]? := by
  induction cs generalizing i with
  | nil => simp at h
  | cons r l ih =>
    have e : cl (r :: l) = cc r ++ cl l := by simp [cl]
    rw [e]
    cases i with
    | zero => rw [List.getElem?_append_left (by rw [cc_length]; omega)]; simp
    | succ i =>
      rw [List.getElem?_append_right (by rw [cc_length]; omega), cc_length, show (i + 1) * 5 + j - 5 = i * 5 + j by omega, ih i (by simpa using h)]
      simp
theorem drop_at (cs : List Ch) (k : Nat) (h : k < cs.length) : cs.drop k = cs.getD k cz :: cs.drop (k + 1) := by
  rw [List.drop_eq_getElem_cons h]; simp [List.getD, List.getElem?_eq_getElem h]
theorem take_at (cs : List Ch) (k : Nat) (h : k < cs.length) : cs.take (k + 1) = cs.take k ++ [cs.getD k cz] := by
  rw [List.take_succ_eq_append_getElem h]; simp [List.getD, List.getElem?_eq_getElem h]
/-- the cells of a change lie at b, o -/
structure C5 (w : World) (b o : Nat) (c : Ch) : Prop where
  c0 : w.cell? ⟨b, o, none⟩ = some (.int .i64 c.who)
  c1 : w.cell? ⟨b, o + 1, none⟩ = some (.int .u8 c.op.toNat)
  c2 : w.cell? ⟨b, o + 2, none⟩ = some (.int .i64 c.bits)
  c3 : w.cell? ⟨b, o + 3, none⟩ = some (.int .u8 c.cp.toNat)
  c4 : w.cell? ⟨b, o + 4, none⟩ = some (.bool c.dirs)
theorem C5.of {w w' : World} {b o : Nat} {c : Ch} (h : C5 w b o c) (e : ∀ o, w'.cell? ⟨b, o, none⟩ = w.cell? ⟨b, o, none⟩) : C5 w' b o c :=
  ⟨(e _).trans h.c0, (e _).trans h.c1, (e _).trans h.c2, (e _).trans h.c3, (e _).trans h.c4⟩
theorem C5.at {w : World} {b o : Nat} {c : Ch} (h : ∀ j u, (cc c)[j]? = some u → w.cell? ⟨b, o + j, none⟩ = some u) : C5 w b o c :=
  ⟨h 0 _ rfl, h 1 _ rfl, h 2 _ rfl, h 3 _ rfl, h 4 _ rfl⟩
/-- a list of changes that came in: empty, or its cells lie at b, off -/
structure Cg (w : World) (a : Option Addr) (n cap : Nat) (cs : List Ch) : Prop where
  len : cs.length = n
  le : n ≤ cap
  nil : a = none → n = 0 ∧ cap = 0
  cells : n = 0 ∨ ∃ b off, a = some ⟨b, off, none⟩ ∧ b < w.heap.size ∧ ∀ i, i < n → C5 w b (off + i * 5) (cs.getD i cz)
theorem Cg.below {w w' : World} {a : Option Addr} {n cap : Nat} {cs : List Ch} (h : Cg w a n cap cs) (hb : Below w.heap.size w w') : Cg w' a n cap cs := by
  refine ⟨h.len, h.le, h.nil, ?_⟩
  rcases h.cells with h | ⟨b, off, e, hlt, hc⟩
  · exact .inl h
  · exact .inr ⟨b, off, e, Nat.lt_of_lt_of_le hlt hb.size, fun i hi => (hc i hi).of fun o => hb.cell hlt⟩
theorem add_none (b off j : Nat) : (⟨b, off, none⟩ : Addr).add j = ⟨b, off + j, none⟩ := by unfold Addr.add; split <;> simp_all
theorem cg_of_owns {w : World} {base : Nat} {v : Value} {cs : List Ch} {e : TypeId} (h : w.ownsRow base e 5 v cs.length (cl cs)) : ∃ a cap, v = .slice a cs.length cap ∧ Cg w a cs.length cap cs := by
  rcases h.2 with ⟨rfl, hn⟩ | ⟨g, cap, cur, rfl, hb, hg, hle, rest⟩
  · exact ⟨none, 0, by rw [hn], rfl, by omega, fun _ => ⟨hn, rfl⟩, .inl hn⟩
  · refine ⟨some ⟨g, 0, none⟩, cap, rfl, rfl, hle, (by intro h; cases h), .inr ⟨g, 0, rfl, (h.lt g rfl).2, fun i hi => .at fun j u hj => ?_⟩⟩
    have hj5 : j < 5 := (List.getElem?_eq_some_iff.1 hj).1
    have h1 := h.cells (g := g) rfl (i * 5 + j) u (by rw [cl_get cs i j hi hj5]; exact hj)
    rw [add_none] at h1
    rw [Nat.add_assoc]; exact h1
theorem own_below {w w' : World} {base : Nat} {e : TypeId} {size : Nat} {v : Value} {n : Nat} {xs : List Value} (h : w.ownsRow base e size v n xs) (hb : Below w.heap.size w w') : w'.ownsRow base e size v n xs :=
  h.kept (row := none) ⟨hb.os, hb.tape, hb.output, hb.size, fun k hk _ => hb.block k hk⟩ (by cases v.ownBlock <;> simp)
theorem own_base {w : World} {base base' : Nat} {e : TypeId} {size : Nat} {v : Value} {n : Nat} {xs : List Value} (h : w.ownsRow base e size v n xs) (hb : base' ≤ base) : w.ownsRow base' e size v n xs := by
  refine ⟨h.1, ?_⟩
  rcases h.2 with hn | ⟨g, cap, cur, rfl, hg, rest⟩
  · exact .inl hn
  · exact .inr ⟨g, cap, cur, rfl, by omega, rest⟩
theorem five_new (w : World) (c : Ch) (e : TypeId) : ∀ j u, (cc c)[j]? = some u → (w.alloc (.cells (cc c).toArray e)).cell? ((⟨w.heap.size, 0, none⟩ : Addr).add j) = some u := by
  intro j u hj
  rw [add_none, cell_of_row _ _ _ _ _ _ (heap_alloc_new w _), Nat.zero_add]
  simpa using hj
theorem five_one (c : Ch) : ∀ u ∈ cc c, u.oneCell' = true := by
  intro u hu; simp [cc] at hu; rcases hu with rfl | rfl | rfl | rfl | rfl <;> rfl
theorem cg_nil (w : World) : Cg w none 0 0 [] := ⟨rfl, Nat.le_refl _, fun _ => ⟨rfl, rfl⟩, .inl rfl⟩
theorem cg_lit (w : World) (l : List Ch) (e : TypeId) : Cg (w.alloc (.cells (cl l).toArray e)) (some ⟨w.heap.size, 0, none⟩) l.length l.length l := by
  refine ⟨rfl, Nat.le_refl _, by simp, .inr ⟨w.heap.size, 0, rfl, by simp, fun i hi => .at fun j u hj => ?_⟩⟩
  have hj5 : j < 5 := (List.getElem?_eq_some_iff.1 hj).1
  rw [cell_of_row _ _ _ _ _ _ (heap_alloc_new w _)]
  have := cl_get l i j hi hj5
  rw [hj] at this
  simpa [Nat.add_assoc] using this
theorem applyP_take (cs : List Ch) (k m : Nat) (mask : Int) (dir : Bool) (h : k < cs.length) : applyP (cs.take (k + 1)) m mask dir = chgP (cs.getD k cz) (applyP (cs.take k) m mask dir) mask dir := by
  rw [take_at cs k h, applyP_app]; rfl

end Go.Proofs.YtijknodbaddelaaGreatDoor.Mo
