/- Trees as bytes, in plain words; no program is named here. -/
import Derived.Test.YtbofidpoajdcmabCdPlain
namespace Go.Proofs.Ytbofidpoajdcmab.Cd
open Go.RowKit Cu Tr

def entB (e : En) : Bs := txtB (bs e.name) ++ numsB [e.node]
def entsB (l : List En) : Bs := l.flatMap entB
def nodeB (n : Nd) : Bs := [n.kind] ++ numsB [n.mode, n.user, n.group, n.links, n.time] ++ txtB n.data ++ txtB (bs n.target) ++ lenB n.list.length ++ entsB n.list ++ numsB [n.parent]
def nodesB (ns : List Nd) : Bs := ns.flatMap nodeB
def treeB (now : Int) (ns : List Nd) : Bs := numsB [now] ++ lenB ns.length ++ nodesB ns
def mayEnts (l : List En) : Bool := decide (l.length ≤ 512) && l.all fun e => decide (e.name.size ≤ 65536)
def mayNode (n : Nd) : Bool := decide (n.data.length ≤ 65536) && decide (n.target.size ≤ 65536) && mayEnts n.list
def mayTree (ns : List Nd) : Bool := decide (ns.length ≤ 513) && ns.all mayNode
theorem entB_len (e : En) : (entB e).length = 12 + e.name.size := by simp only [entB, List.length_append, txtB_len, numsB_len, bs_len, List.length_cons, List.length_nil]; omega
theorem entsB_snoc (l : List En) (e : En) : entsB (l ++ [e]) = entsB l ++ entB e := by simp [entsB]
theorem entsB_le (l : List En) (h : ∀ e ∈ l, e.name.size ≤ 65536) : (entsB l).length ≤ l.length * 65548 := by
  induction l with
  | nil => simp [entsB]
  | cons e l ih =>
    have h1 := ih (fun x hx => h x (by simp [hx]))
    have h2 := h e (by simp)
    simp only [entsB, List.flatMap_cons, List.length_append, entB_len, List.length_cons] at h1 ⊢
    omega
theorem mayEnts_all {l : List En} (h : mayEnts l = true) : l.length ≤ 512 ∧ ∀ e ∈ l, e.name.size ≤ 65536 := by
  simp only [mayEnts, Bool.and_eq_true, decide_eq_true_eq, List.all_eq_true] at h
  exact h
theorem mayNode_all {n : Nd} (h : mayNode n = true) : n.data.length ≤ 65536 ∧ n.target.size ≤ 65536 ∧ mayEnts n.list = true := by
  simp only [mayNode, Bool.and_eq_true, decide_eq_true_eq] at h
  exact ⟨h.1.1, h.1.2, h.2⟩
theorem nodeB_le (n : Nd) (h : mayNode n = true) : (nodeB n).length ≤ 40000000 := by
  obtain ⟨h1, h2, h3⟩ := mayNode_all h
  obtain ⟨h4, h5⟩ := mayEnts_all h3
  have h6 := entsB_le n.list h5
  have h7 : n.list.length * 65548 ≤ 512 * 65548 := Nat.mul_le_mul_right _ h4
  simp only [nodeB, List.length_append, txtB_len, numsB_len, lenB_len, bs_len, List.length_cons, List.length_nil]
  omega
theorem nodesB_snoc (l : List Nd) (n : Nd) : nodesB (l ++ [n]) = nodesB l ++ nodeB n := by simp [nodesB]
theorem nodesB_le (l : List Nd) (h : ∀ n ∈ l, mayNode n = true) : (nodesB l).length ≤ l.length * 40000000 := by
  induction l with
  | nil => simp [nodesB]
  | cons e l ih =>
    have h1 := ih (fun x hx => h x (by simp [hx]))
    have h2 := nodeB_le e (h e (by simp))
    simp only [nodesB, List.flatMap_cons, List.length_append, List.length_cons] at h1 ⊢
    omega
theorem mayTree_all {ns : List Nd} (h : mayTree ns = true) : ns.length ≤ 513 ∧ ∀ n ∈ ns, mayNode n = true := by
  simp only [mayTree, Bool.and_eq_true, decide_eq_true_eq, List.all_eq_true] at h
  exact h

/-! ### back -/
def entP (l : Bs) : Option (En × Bs) := (txtP l).bind fun p => (intsP 1 p.2).map fun q => (⟨ba p.1, q.1.getD 0 0⟩, q.2)
/-- so many things, one behind the other -/
def manyP {α : Type} (f : Bs → Option (α × Bs)) : Nat → Bs → Option (List α × Bs)
  | 0, l => some ([], l)
  | k + 1, l => (f l).bind fun p => (manyP f k p.2).map fun q => (p.1 :: q.1, q.2)
theorem manyP_snoc {α : Type} (f : Bs → Option (α × Bs)) : ∀ (i : Nat) (l : Bs), manyP f (i + 1) l = (manyP f i l).bind fun p => (f p.2).map fun q => (p.1 ++ [q.1], q.2)
  | 0, l => by
    simp only [manyP, Option.bind_some, Option.map_some, List.nil_append]
    cases f l <;> rfl
  | i + 1, l => by
    show ((f l).bind fun p => (manyP f (i + 1) p.2).map fun q => (p.1 :: q.1, q.2)) = (((f l).bind fun p => (manyP f i p.2).map fun q => (p.1 :: q.1, q.2)).bind fun p => (f p.2).map fun q => (p.1 ++ [q.1], q.2))
    cases f l with
    | none => rfl
    | some p =>
      simp only [Option.bind_some]
      rw [manyP_snoc f i]
      cases manyP f i p.2 with
      | none => rfl
      | some q =>
        simp only [Option.bind_some, Option.map_some]
        cases f q.2 <;> rfl
theorem manyP_none {α : Type} {f : Bs → Option (α × Bs)} {i : Nat} {l : Bs} (h : manyP f i l = none) (n : Nat) (hn : i ≤ n) : manyP f n l = none := by
  induction n with
  | zero => have : i = 0 := by omega
            subst this; exact h
  | succ n ih =>
    by_cases e : i = n + 1
    · rw [← e]; exact h
    · rw [manyP_snoc, ih (by omega)]; rfl
theorem manyP_len {α : Type} {f : Bs → Option (α × Bs)} : ∀ {i : Nat} {l : Bs} {xs : List α} {r : Bs}, manyP f i l = some (xs, r) → xs.length = i
  | 0, l, xs, r, h => by simp [manyP] at h; rw [h.1]; rfl
  | i + 1, l, xs, r, h => by
    simp only [manyP, Option.bind_eq_some_iff, Option.map_eq_some_iff] at h
    obtain ⟨p, _, q, hq, h⟩ := h
    injection h with h1 h2
    rw [← h1, List.length_cons, manyP_len (xs := q.1) (r := q.2) hq]
abbrev RestN := Nd → Bs → Option (Nd × Bs)
def n7 : RestN := fun n r => some (n, r)
def n6 : RestN := fun n r => (intsP 1 r).bind fun p => n7 { n with parent := p.1.getD 0 0 } p.2
def n5 : RestN := fun n r => ((lenP 512 r).bind fun p => manyP entP p.1 p.2).bind fun p => n6 { n with list := n.list ++ p.1 } p.2
def n4 : RestN := fun n r => (txtP r).bind fun p => n5 { n with target := ba p.1 } p.2
def n3 : RestN := fun n r => (txtP r).bind fun p => n4 { n with data := p.1 } p.2
def n2 : RestN := fun n r => (intsP 5 r).bind fun p => n3 { n with mode := p.1.getD 0 0, user := p.1.getD 1 0, group := p.1.getD 2 0, links := p.1.getD 3 0, time := p.1.getD 4 0 } p.2
def n1 : RestN := fun n r => (numN 1 r).bind fun p => n2 { n with kind := UInt8.ofNat p.1 } p.2
def nodeP (l : Bs) : Option (Nd × Bs) := n1 nz l
def nodesP9 (l : Bs) : Option (List Nd × Bs) := (lenP 513 l).bind fun p => manyP nodeP p.1 p.2
def treeP (l : Bs) : Option ((Int × List Nd) × Bs) := (intsP 1 l).bind fun p => (nodesP9 p.2).map fun q => ((p.1.getD 0 0, q.1), q.2)
end Go.Proofs.Ytbofidpoajdcmab.Cd
