/- What a walk's steps tell of sizes, in plain words; nodeOf and sizeOf. -/
import Derived.Test.YtbajjbgeohbdjaaWkMap
namespace Go.Proofs.Ytbajjbgeohbdjaa.Wk
open Go.RowKit Go.Proofs.Ytbajjbgeohbdjaa.Cu Go.Proofs.Ytbajjbgeohbdjaa.Tr Go.Proofs.Ytbajjbgeohbdjaa.Pm Go.Proofs.Ytbajjbgeohbdjaa.Pt

/-- what the steps so far tell -/
structure Ty where
  bytes : Int
  met : List Nat
  beg : List (Sp × Int)
def szP (n : Nd) : Nat := n.data.length + n.target.size
/-- the node of a number -/
def nodeAt (ns : List Nd) (i : Int) : Nd := if i < 0 ∨ (ns.length : Int) ≤ i then nz else nd ns i.toNat
def keyS (s : Sp) : Sp := { s with after := false }
def endV (y : Ty) (s : Sp) : Int := match look (keyS s) y.beg with
  | none => 0
  | some v => y.bytes - v
def endY (y : Ty) (s : Sp) : Ty := match look (keyS s) y.beg with
  | none => y
  | some _ => ⟨y.bytes, y.met, del (keyS s) y.beg⟩
def szT (ns : List Nd) (y : Ty) (s : Sp) : Int × Ty :=
  if (nodeAt ns s.node).kind = 0 then (0, y)
  else if (nodeAt ns s.node).kind ≠ 2 then
    if s.node.toNat ∈ y.met then (0, y) else ((szP (nodeAt ns s.node) : Int), ⟨y.bytes + szP (nodeAt ns s.node), s.node.toNat :: y.met, y.beg⟩)
  else if s.after then (endV y s, endY y s)
  else (0, ⟨y.bytes, y.met, upd s y.bytes y.beg⟩)
def szAll (ns : List Nd) : Ty → List Sp → List Int × Ty
  | y, [] => ([], y)
  | y, s :: l => ((szT ns y s).1 :: (szAll ns (szT ns y s).2 l).1, (szAll ns (szT ns y s).2 l).2)
def sizesP (now : Int) (ns : List Nd) (l : List Sp) : List Int := if checkP now ns then (szAll ns ⟨0, [], []⟩ l).1 else List.replicate l.length 0
theorem szAll_len (ns : List Nd) : ∀ (l : List Sp) (y : Ty), (szAll ns y l).1.length = l.length
  | [], _ => rfl
  | s :: l, y => by rw [szAll]; simp [szAll_len ns l]
theorem szAll_app (ns : List Nd) : ∀ (a b : List Sp) (y : Ty), szAll ns y (a ++ b) = ((szAll ns y a).1 ++ (szAll ns (szAll ns y a).2 b).1, (szAll ns (szAll ns y a).2 b).2)
  | [], b, y => rfl
  | s :: a, b, y => by rw [List.cons_append, szAll, szAll_app ns a b, szAll]; rfl
/-- numbers stay small -/
structure Few (k : Nat) (y : Ty) : Prop where
  b0 : 0 ≤ y.bytes
  b1 : y.bytes ≤ (k : Int) * 66560
  v0 : ∀ q ∈ y.beg, 0 ≤ q.2 ∧ q.2 ≤ y.bytes
theorem sz_le {now : Int} {ns : List Nd} (hc : checkP now ns = true) (i : Int) : szP (nodeAt ns i) ≤ 66560 := by
  unfold nodeAt
  split
  · decide
  · rename_i h
    have hk := (checkP_parts hc).2.2.2.2.2.1 i.toNat (by omega)
    unfold szP
    unfold kindP at hk
    split at hk
    · unfold freeP emptyB at hk; simp only [Bool.and_eq_true, decide_eq_true_eq] at hk; omega
    split at hk
    · unfold fileP emptyB at hk; simp only [Bool.and_eq_true, decide_eq_true_eq] at hk; omega
    split at hk
    · unfold dirP emptyB at hk; simp only [Bool.and_eq_true, decide_eq_true_eq] at hk; omega
    split at hk
    · unfold linkP targetP at hk; simp only [Bool.and_eq_true, decide_eq_true_eq] at hk; omega
    · cases hk
theorem upd_mem {s : Sp} {v : Int} : ∀ {l : List (Sp × Int)} {q}, q ∈ upd s v l → q = (s, v) ∨ q ∈ l
  | [], q, h => by simp [upd] at h; exact .inl h
  | x :: l, q, h => by
    rw [upd] at h
    split at h
    · rcases List.mem_cons.1 h with h | h
      · exact .inl h
      · exact .inr (by simp [h])
    · rcases List.mem_cons.1 h with h | h
      · exact .inr (by simp [h])
      · rcases upd_mem h with h | h
        · exact .inl h
        · exact .inr (by simp [h])
theorem del_mem {s : Sp} : ∀ {l : List (Sp × Int)} {q}, q ∈ del s l → q ∈ l
  | [], q, h => by cases h
  | x :: l, q, h => by
    rw [del] at h
    split at h
    · simp [h]
    · rcases List.mem_cons.1 h with h | h
      · simp [h]
      · simp [del_mem h]
theorem look_mem {s : Sp} {v : Int} : ∀ {l : List (Sp × Int)}, look s l = some v → (s, v) ∈ l
  | [], h => by cases h
  | x :: l, h => by
    rw [look] at h
    split at h
    · rename_i e
      rw [← (sameS_iff _ _).1 e, ← Option.some.inj h]; simp
    · simp [look_mem h]
theorem few_step {now : Int} {ns : List Nd} (hc : checkP now ns = true) {k : Nat} {y : Ty} (h : Few k y) (s : Sp) : Few (k + 1) (szT ns y s).2 ∧ -9223372036854775808 ≤ (szT ns y s).1 ∧ 0 ≤ (szT ns y s).1 ∧ (szT ns y s).1 ≤ ((k : Int) + 1) * 66560 := by
  obtain ⟨h0, h1, h2⟩ := h
  have hz := sz_le hc s.node
  have hw : Few (k + 1) y := ⟨h0, by omega, h2⟩
  unfold szT
  split
  · exact ⟨hw, by omega, by omega, by show (0 : Int) ≤ _; omega⟩
  split
  · split
    · exact ⟨hw, by omega, by omega, by show (0 : Int) ≤ _; omega⟩
    · refine ⟨⟨by show 0 ≤ y.bytes + _; omega, by show y.bytes + _ ≤ _; omega, fun q hq => ?_⟩, by show _ ≤ ((szP _ : Nat) : Int); omega, by show _ ≤ ((szP _ : Nat) : Int); omega, by show ((szP _ : Nat) : Int) ≤ _; omega⟩
      have := h2 q hq
      exact ⟨this.1, by show q.2 ≤ y.bytes + _; omega⟩
  split
  · unfold endV endY
    cases hv : look (keyS s) y.beg with
    | none => exact ⟨hw, by show _ ≤ (0 : Int); omega, by show (0 : Int) ≤ 0; omega, by show (0 : Int) ≤ _; omega⟩
    | some v =>
      have := h2 _ (look_mem hv)
      simp only at this
      exact ⟨⟨h0, by show y.bytes ≤ _; omega, fun q hq => h2 q (del_mem hq)⟩, by show _ ≤ y.bytes - v; omega, by show _ ≤ y.bytes - v; omega, by show y.bytes - v ≤ _; omega⟩
  · refine ⟨⟨h0, by show y.bytes ≤ _; omega, fun q hq => ?_⟩, by omega, by omega, by show (0 : Int) ≤ _; omega⟩
    rcases upd_mem hq with rfl | hq
    · exact ⟨h0, Int.le_refl _⟩
    · exact h2 q hq
end Go.Proofs.Ytbajjbgeohbdjaa.Wk
