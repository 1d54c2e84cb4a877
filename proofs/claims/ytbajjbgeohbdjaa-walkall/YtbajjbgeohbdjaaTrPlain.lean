/- A tree of files in plain words: when it may be; and a tree in memory. -/
import Derived.Test.YtbajjbgeohbdjaaCuBase
namespace Go.Proofs.Ytbajjbgeohbdjaa.Tr
open Go.RowKit Go.Proofs.Ytbajjbgeohbdjaa.Cu

/-- a name of a directory -/
structure En where
  name : ByteArray
  node : Int
/-- a node -/
structure Nd where
  kind : UInt8
  mode : Int
  user : Int
  group : Int
  links : Int
  time : Int
  data : Bs
  target : ByteArray
  list : List En
  parent : Int
abbrev ez : En := ⟨⟨#[]⟩, 0⟩
abbrev nz : Nd := ⟨0, 0, 0, 0, 0, 0, [], ⟨#[]⟩, [], 0⟩
def nd (ns : List Nd) (i : Nat) : Nd := ns.getD i nz

def timeP (n : Int) : Bool := decide (0 ≤ n) && decide (n ≤ 1099511627775)
def ownerP (n : Int) : Bool := decide (0 ≤ n) && decide (n ≤ 65535)
def hasOwnerP (n : Nd) : Bool := decide (0 ≤ n.mode) && decide (n.mode ≤ 511) && ownerP n.user && ownerP n.group && timeP n.time
def noListP (n : Nd) : Bool := decide (n.list.length = 0) && decide (n.parent = 0)
def ltB (a b : ByteArray) : Bool := Op.bytesLess a.toList b.toList
def hasB (s : ByteArray) (c : UInt8) : Bool := decide (c ∈ bs s)
def nameP (s : ByteArray) : Bool := decide (1 ≤ s.size) && decide (s.size ≤ 64) && decide (s ≠ ⟨#[46]⟩) && decide (s ≠ ⟨#[46, 46]⟩) && !hasB s 0 && !hasB s 47
def targetP (s : ByteArray) : Bool := decide (1 ≤ s.size) && decide (s.size ≤ 1024) && !hasB s 0
def en (l : List En) (i : Nat) : En := l.getD i ez
def okE (l : List En) (i : Nat) : Bool := nameP (en l i).name && (decide (i = 0) || ltB (en l (i - 1)).name (en l i).name)
def allTo (k : Nat) (p : Nat → Bool) : Bool := (List.range k).all p
theorem allTo_succ (k : Nat) (p : Nat → Bool) : allTo (k + 1) p = (allTo k p && p k) := by simp [allTo, List.range_succ]
theorem allTo_true {k : Nat} {p : Nat → Bool} : allTo k p = true ↔ ∀ i, i < k → p i = true := by simp [allTo]
theorem allTo_false {k n : Nat} {p : Nat → Bool} (hk : k < n) (h : p k = false) : allTo n p = false := by
  cases e : allTo n p with
  | false => rfl
  | true => rw [allTo_true.1 e k hk] at h; cases h
def listP (l : List En) : Bool := decide (l.length ≤ 512) && allTo l.length (okE l)
def emptyB (s : ByteArray) : Bool := decide (s.size = 0)
def freeP (n : Nd) : Bool := decide (n.mode = 0) && decide (n.user = 0) && decide (n.group = 0) && decide (n.links = 0) && decide (n.time = 0) && decide (n.data.length = 0) && emptyB n.target && noListP n
def fileP (n : Nd) : Bool := hasOwnerP n && decide (n.data.length ≤ 65536) && emptyB n.target && noListP n
def dirP (n : Nd) : Bool := hasOwnerP n && listP n.list && decide (n.data.length = 0) && emptyB n.target
def linkP (n : Nd) : Bool := hasOwnerP n && decide (n.mode = 511) && targetP n.target && decide (n.data.length = 0) && noListP n
def kindP (n : Nd) : Bool := if n.kind = 0 then freeP n else if n.kind = 1 then fileP n else if n.kind = 2 then dirP n else if n.kind = 3 then linkP n else false
def rootP (ns : List Nd) : Bool := decide (2 ≤ ns.length) && decide (ns.length ≤ 513) && decide ((nd ns 0).kind = 0) && decide ((nd ns 1).kind = 2) && decide ((nd ns 1).parent = 1) && decide ((nd ns (ns.length - 1)).kind ≠ 0)
def bytesP (ns : List Nd) (k : Nat) : Nat := ((ns.take k).map fun n => n.data.length).sum
def namesP (ns : List Nd) (k : Nat) : Nat := ((ns.take k).map fun n => n.list.length).sum
def limitsP (ns : List Nd) : Bool := decide (bytesP ns ns.length ≤ 1048576) && decide (namesP ns ns.length ≤ 2048)
def nodeOk (ns : List Nd) (i : Nat) : Bool := kindP (nd ns i)
def nodesP (ns : List Nd) : Bool := allTo ns.length (nodeOk ns)

/-- a directory's names, one by one: T is what was listed so far, d how many of these names were directories -/
def goL (ns : List Nd) (vis : Nat → List Nat → Option (List Nat)) (dir : Nat) : List En → List Nat → Nat → Option (List Nat × Nat)
  | [], T, d => some (T, d)
  | e :: l, T, d =>
    if e.node ≤ 1 ∨ (ns.length : Int) ≤ e.node then none
    else if (nd ns e.node.toNat).kind = 0 then none
    else if (nd ns e.node.toNat).kind = 2 then
      if 1 < (e.node.toNat :: T).count e.node.toNat ∨ (nd ns e.node.toNat).parent ≠ dir then none
      else match vis e.node.toNat (e.node.toNat :: T) with
        | none => none
        | some T' => goL ns vis dir l T' (d + 1)
    else goL ns vis dir l (e.node.toNat :: T) d
/-- a directory and all that is within it -/
def visitP (ns : List Nd) : Nat → Nat → List Nat → Option (List Nat)
  | 0, _, _ => none
  | f + 1, dir, T => match goL ns (visitP ns f) dir (nd ns dir).list T 0 with
    | none => none
    | some (T', d) => if (nd ns dir).links = 2 + (d : Int) then some T' else none
/-- a node that is not free is listed, and as often as its Links say -/
def oneListed (ns : List Nd) (T : List Nat) (i : Nat) : Bool := decide ((nd ns i).kind = 0) || (!decide (T.count i = 0) && (decide ((nd ns i).kind = 2) || decide ((nd ns i).links = T.count i)))
def listedOk (ns : List Nd) (T : List Nat) (i : Nat) : Bool := oneListed ns T (i + 2)
def listedP (ns : List Nd) (T : List Nat) : Bool := allTo (ns.length - 2) (listedOk ns T)
def hangsP (ns : List Nd) : Bool := match visitP ns 33 1 [] with
  | none => false
  | some T => listedP ns T
def checkP (now : Int) (ns : List Nd) : Bool := timeP now && rootP ns && limitsP ns && nodesP ns && hangsP ns

/-! ### in memory -/
abbrev tyNode : TypeId := 42
def nc (n : Nd) (d l : Value) : List Value := [.int .u8 n.kind.toNat, .int .i64 n.mode, .int .i64 n.user, .int .i64 n.group, .int .i64 n.links, .int .i64 n.time, d, .string n.target, l, .int .i64 n.parent]
/-- the cells of a node lie at b, o -/
structure N10 (w : World) (b o : Nat) (n : Nd) (d l : Value) : Prop where
  c0 : w.cell? ⟨b, o, none⟩ = some (.int .u8 n.kind.toNat)
  c1 : w.cell? ⟨b, o + 1, none⟩ = some (.int .i64 n.mode)
  c2 : w.cell? ⟨b, o + 2, none⟩ = some (.int .i64 n.user)
  c3 : w.cell? ⟨b, o + 3, none⟩ = some (.int .i64 n.group)
  c4 : w.cell? ⟨b, o + 4, none⟩ = some (.int .i64 n.links)
  c5 : w.cell? ⟨b, o + 5, none⟩ = some (.int .i64 n.time)
  c6 : w.cell? ⟨b, o + 6, none⟩ = some d
  c7 : w.cell? ⟨b, o + 7, none⟩ = some (.string n.target)
  c8 : w.cell? ⟨b, o + 8, none⟩ = some l
  c9 : w.cell? ⟨b, o + 9, none⟩ = some (.int .i64 n.parent)
theorem N10.of {w w' : World} {b o : Nat} {n : Nd} {d l : Value} (h : N10 w b o n d l) (e : ∀ o, w'.cell? ⟨b, o, none⟩ = w.cell? ⟨b, o, none⟩) : N10 w' b o n d l :=
  ⟨(e _).trans h.c0, (e _).trans h.c1, (e _).trans h.c2, (e _).trans h.c3, (e _).trans h.c4, (e _).trans h.c5, (e _).trans h.c6, (e _).trans h.c7, (e _).trans h.c8, (e _).trans h.c9⟩
theorem N10.at {w : World} {b o : Nat} {n : Nd} {d l : Value} (h : ∀ j u, (nc n d l)[j]? = some u → w.cell? ⟨b, o + j, none⟩ = some u) : N10 w b o n d l :=
  ⟨h 0 _ rfl, h 1 _ rfl, h 2 _ rfl, h 3 _ rfl, h 4 _ rfl, h 5 _ rfl, h 6 _ rfl, h 7 _ rfl, h 8 _ rfl, h 9 _ rfl⟩
def ec (e : En) : List Value := [.string e.name, .int .i64 e.node]
structure E2 (w : World) (b o : Nat) (e : En) : Prop where
  c0 : w.cell? ⟨b, o, none⟩ = some (.string e.name)
  c1 : w.cell? ⟨b, o + 1, none⟩ = some (.int .i64 e.node)
theorem E2.of {w w' : World} {b o : Nat} {e : En} (h : E2 w b o e) (x : ∀ o, w'.cell? ⟨b, o, none⟩ = w.cell? ⟨b, o, none⟩) : E2 w' b o e := ⟨(x _).trans h.c0, (x _).trans h.c1⟩
/-- a list of names that came in: empty, or its cells lie at b, off -/
structure Eg (w : World) (a : Option Addr) (n cap : Nat) (es : List En) : Prop where
  len : es.length = n
  le : n ≤ cap
  nil : a = none → n = 0 ∧ cap = 0
  cells : n = 0 ∨ ∃ b off, a = some ⟨b, off, none⟩ ∧ b < w.heap.size ∧ ∀ i, i < n → E2 w b (off + i * 2) (en es i)
theorem Eg.below {w w' : World} {a : Option Addr} {n cap : Nat} {es : List En} (h : Eg w a n cap es) (hb : Below w.heap.size w w') : Eg w' a n cap es := by
  refine ⟨h.len, h.le, h.nil, ?_⟩
  rcases h.cells with h | ⟨b, off, e, hlt, hc⟩
  · exact .inl h
  · exact .inr ⟨b, off, e, Nat.lt_of_lt_of_le hlt hb.size, fun i hi => (hc i hi).of fun o => hb.cell hlt⟩
/-- bytes that came in -/
structure By (w : World) (a : Option Addr) (n cap : Nat) (l : Bs) : Prop where
  len : l.length = n
  le : n ≤ cap
  nil : a = none → n = 0 ∧ cap = 0
  cells : n = 0 ∨ ∃ b off, a = some ⟨b, off, none⟩ ∧ b < w.heap.size ∧ ∀ i, i < n → w.cell? ⟨b, off + i, none⟩ = some (.int .u8 (l.getD i 0).toNat)
theorem By.below {w w' : World} {a : Option Addr} {n cap : Nat} {l : Bs} (h : By w a n cap l) (hb : Below w.heap.size w w') : By w' a n cap l := by
  refine ⟨h.len, h.le, h.nil, ?_⟩
  rcases h.cells with h | ⟨b, off, e, hlt, hc⟩
  · exact .inl h
  · exact .inr ⟨b, off, e, Nat.lt_of_lt_of_le hlt hb.size, fun i hi => (hb.cell hlt).trans (hc i hi)⟩
/-- a node at b, o with all that it holds -/
def Nx (w : World) (b o : Nat) (n : Nd) : Prop := ∃ da dc la lc, N10 w b o n (.slice da n.data.length dc) (.slice la n.list.length lc) ∧ By w da n.data.length dc n.data ∧ Eg w la n.list.length lc n.list
theorem Nx.below {w w' : World} {b o : Nat} {n : Nd} (h : Nx w b o n) (hlt : b < w.heap.size) (hb : Below w.heap.size w w') : Nx w' b o n := by
  obtain ⟨da, dc, la, lc, h1, h2, h3⟩ := h
  exact ⟨da, dc, la, lc, h1.of fun o => hb.cell hlt, h2.below hb, h3.below hb⟩
/-- nodes that came in -/
structure Ng (w : World) (a : Option Addr) (n cap : Nat) (ns : List Nd) : Prop where
  len : ns.length = n
  le : n ≤ cap
  nil : a = none → n = 0 ∧ cap = 0
  cells : n = 0 ∨ ∃ b off, a = some ⟨b, off, none⟩ ∧ b < w.heap.size ∧ ∀ i, i < n → Nx w b (off + i * 10) (nd ns i)
theorem Ng.below {w w' : World} {a : Option Addr} {n cap : Nat} {ns : List Nd} (h : Ng w a n cap ns) (hb : Below w.heap.size w w') : Ng w' a n cap ns := by
  refine ⟨h.len, h.le, h.nil, ?_⟩
  rcases h.cells with h | ⟨b, off, e, hlt, hc⟩
  · exact .inl h
  · exact .inr ⟨b, off, e, Nat.lt_of_lt_of_le hlt hb.size, fun i hi => (hc i hi).below hlt hb⟩
/-- a node by value -/
abbrev na (n : Nd) (d l : Value) : Array Value := #[.int .u8 n.kind.toNat, .int .i64 n.mode, .int .i64 n.user, .int .i64 n.group, .int .i64 n.links, .int .i64 n.time, d, .string n.target, l, .int .i64 n.parent]
abbrev nv (n : Nd) (da : Option Addr) (dc : Nat) (la : Option Addr) (lc : Nat) : Value := .agg (na n (.slice da n.data.length dc) (.slice la n.list.length lc))
theorem below_drewN {w w' : World} (h : Below w.heap.size w w') (q : Nat) : Below w.heap.size w (w'.drewN q) := ⟨h.os, h.tape, h.output, h.size, h.block⟩
end Go.Proofs.Ytbajjbgeohbdjaa.Tr
