/- Where a path leads, in plain words. -/
import Derived.Test.YtbajjbgeohbdjaaPtStr
import Derived.Test.YtbajjbgeohbdjaaPmMay
import Derived.Test.YtbajjbgeohbdjaaTrFind
import Derived.Test.YtbajjbgeohbdjaaTrSound
namespace Go.Proofs.Ytbajjbgeohbdjaa.Pt
open Go.RowKit Go.Proofs.Ytbajjbgeohbdjaa.Cu Go.Proofs.Ytbajjbgeohbdjaa.Tr Go.Proofs.Ytbajjbgeohbdjaa.Pm

abbrev dot : ByteArray := ⟨#[46]⟩
abbrev dots : ByteArray := ⟨#[46, 46]⟩
/-- where a path leads -/
structure Pl where
  dir : Int
  name : ByteArray
  node : Int
  dirs : Bool
abbrev pz : Pl := ⟨0, ⟨#[]⟩, 0, false⟩
abbrev pv (p : Pl) : Array Value := #[.int .i64 p.dir, .string p.name, .int .i64 p.node, .bool p.dirs]
def bad (k : Int) : Pl × Int := (pz, k)
/-- part by part; next: how it goes on behind a link -/
def goP (ns : List Nd) (e : Ev) (follow : Bool) (next : Nat → List ByteArray → Bool → Pl × Int) (dirs : Bool) : Nat → List ByteArray → Pl × Int
  | d, [] => (⟨d, ⟨#[]⟩, d, dirs⟩, 0)
  | d, s :: l =>
    if mayP (nd ns d) e 1 = false then bad 10
    else if 64 < s.size then bad 13
    else if s = dot then goP ns e follow next dirs d l
    else if s = dots then goP ns e follow next dirs (nd ns d).parent.toNat l
    else if findP (nd ns d).list s = 0 then (if l = [] then (⟨d, s, 0, dirs⟩, 0) else bad 6)
    else if (nd ns (findP (nd ns d).list s).toNat).kind = 3 ∧ (l ≠ [] ∨ follow = true ∨ dirs = true) then
      next (if begins (nd ns (findP (nd ns d).list s).toNat).target then 1 else d) (partsP (nd ns (findP (nd ns d).list s).toNat).target ++ l) (dirs || (l.isEmpty && ends (nd ns (findP (nd ns d).list s).toNat).target))
    else if (nd ns (findP (nd ns d).list s).toNat).kind = 1 ∧ (l ≠ [] ∨ dirs = true) then bad 9
    else if l = [] then (⟨d, s, findP (nd ns d).list s, dirs⟩, 0)
    else goP ns e follow next dirs (findP (nd ns d).list s).toNat l
/-- with so many ways that may be begun -/
def leadP (ns : List Nd) (e : Ev) (follow : Bool) : Nat → Nat → List ByteArray → Bool → Pl × Int
  | 0, _, _, _ => bad 12
  | h + 1, d, l, dirs => goP ns e follow (leadP ns e follow h) dirs d l
def badP (s : ByteArray) : Bool := decide (1024 < s.size) || hasB s 0
/-- in a tree that may be, for somebody who may be -/
def inPath (ns : List Nd) (e : Ev) (s : ByteArray) (follow : Bool) : Pl × Int :=
  if s.size = 0 then bad 6
  else if badP s then bad 13
  else leadP ns e follow 17 (if begins s then 1 else e.dir.toNat) (partsP s) (ends s)

/-- the node that a part is at a directory, or why there is none -/
def takeP (ns : List Nd) (e : Ev) (d : Nat) (s : ByteArray) : Int × Int :=
  if mayP (nd ns d) e 1 = false then (0, 10)
  else if 64 < s.size then (0, 13)
  else if s = dot then ((d : Int), 0)
  else if s = dots then ((nd ns d).parent, 0)
  else (findP (nd ns d).list s, 0)

/-! ### what is known of a tree that may be -/
def Dr (ns : List Nd) (d : Nat) : Prop := 0 < d ∧ d < ns.length ∧ (nd ns d).kind = 2
theorem dr_root {now : Int} {ns : List Nd} (h : checkP now ns = true) : Dr ns 1 := by
  obtain ⟨a, _, _, d, _⟩ := checkP_parts h
  exact ⟨by omega, by omega, d⟩
theorem up_dr {now : Int} {ns : List Nd} (h : checkP now ns = true) {s d : Nat} (hu : Up ns s d) : Dr ns d := by
  cases hu with
  | root => exact dr_root h
  | step a b c _ _ => exact ⟨by omega, b, c⟩
theorem dr_up {now : Int} {ns : List Nd} (h : checkP now ns = true) {d : Nat} (hd : Dr ns d) : ∃ p : Nat, (nd ns d).parent = (p : Int) ∧ Dr ns p := by
  obtain ⟨_, s, _, hu⟩ := (hung_check h).good d hd.2.1 hd.2.2
  cases hu with
  | root => exact ⟨1, (checkP_parts h).2.2.2.2.1, dr_root h⟩
  | step a b c e f => exact ⟨_, e, up_dr h f⟩
theorem find_mem {es : List En} {t : ByteArray} : findP es t = 0 ∨ ∃ e ∈ es, findP es t = e.node := by
  unfold findP
  cases h : es.find? (fun e => decide (e.name = t)) with
  | none => exact .inl rfl
  | some e => exact .inr ⟨e, List.mem_of_find?_eq_some h, rfl⟩
theorem kind_cases {n : Nd} (h : kindP n = true) : n.kind = 0 ∨ n.kind = 1 ∨ n.kind = 2 ∨ (n.kind = 3 ∧ targetP n.target = true) := by
  unfold kindP at h
  split at h
  · exact .inl ‹_›
  split at h
  · exact .inr (.inl ‹_›)
  split at h
  · exact .inr (.inr (.inl ‹_›))
  split at h
  · unfold linkP at h
    simp only [Bool.and_eq_true] at h
    exact .inr (.inr (.inr ⟨‹_›, h.1.1.2⟩))
  · cases h
/-- a name of a directory: none, or a node that is a file, a directory, or a link -/
theorem dr_find {now : Int} {ns : List Nd} (h : checkP now ns = true) {d : Nat} (hd : Dr ns d) (s : ByteArray) :
    findP (nd ns d).list s = 0 ∨ ∃ m : Nat, findP (nd ns d).list s = (m : Int) ∧ 1 < m ∧ m < ns.length ∧ ((nd ns m).kind = 1 ∨ (nd ns m).kind = 2 ∨ ((nd ns m).kind = 3 ∧ targetP (nd ns m).target = true)) := by
  rcases find_mem (es := (nd ns d).list) (t := s) with h0 | ⟨e, he, h1⟩
  · exact .inl h0
  · obtain ⟨a, b, c, _⟩ := ((hung_check h).good d hd.2.1 hd.2.2).1.1 e he
    refine .inr ⟨e.node.toNat, by omega, by omega, by omega, ?_⟩
    rcases kind_cases ((checkP_parts h).2.2.2.2.2.1 e.node.toNat (by omega)) with q | q | q | q
    · exact absurd q c
    · exact .inl q
    · exact .inr (.inl q)
    · exact .inr (.inr q)
theorem dr_list {now : Int} {ns : List Nd} (h : checkP now ns = true) {d : Nat} (hd : Dr ns d) : listP (nd ns d).list = true := by
  have hi : isDirP now ns (d : Int) = true := by
    unfold isDirP nodeP
    rw [h, Int.toNat_natCast, hd.2.2]
    have := hd.1; have := hd.2.1
    simp; omega
  exact (dir_list hi).2.2.2.2
theorem target_le {s : ByteArray} (h : targetP s = true) : 1 ≤ s.size ∧ s.size ≤ 1024 := by
  unfold targetP at h
  simp only [Bool.and_eq_true, decide_eq_true_eq] at h
  exact h.1
end Go.Proofs.Ytbajjbgeohbdjaa.Pt
