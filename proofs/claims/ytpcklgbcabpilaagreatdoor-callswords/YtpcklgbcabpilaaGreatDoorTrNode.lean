import Derived.Test.YtpcklgbcabpilaaGreatDoorRows
import Derived.WalkKit
import Derived.WalkSpells
import Derived.MapKept
import Derived.Carry
import Derived.Deep.QuietTactic
import Derived.BigQuiet
import Derived.Lib.AppendStr
import Derived.Lib.Builder
import Derived.Lib.Strings
import Derived.Laws.AppendOwnNone
import Derived.Laws.OwnMore
import Derived.Lib.UnsafeStr
import Derived.Lib.Bytealg
/- Parts of lines in plain words: tabs as blanks; things at places; a line in parts; numbers. -/
namespace Go.Proofs.YtpcklgbcabpilaaGreatDoor.Cu
open Go.RowKit

abbrev Bs := List UInt8
theorem hide {p : Prop} (h : p) : Hid p := h
theorem unhide {p : Prop} (h : Hid p) : p := h

/-! ### tabs as blanks -/
/-- so many blanks stand for a tab at that column -/
def gap (n col : Nat) : Nat := n - col % n
/-- a text without tabs, from a column on -/
def ex (n : Nat) : Nat → Bs → Bs
  | _, [] => []
  | col, c :: s => if c = 9 then List.replicate (gap n col) 32 ++ ex n (col + gap n col) s else if c = 10 then 10 :: ex n 0 s else c :: ex n (col + 1) s
theorem ex_tab (n col : Nat) (s : Bs) : ex n col (9 :: s) = List.replicate (gap n col) 32 ++ ex n (col + gap n col) s := by simp [ex]
theorem ex_end (n col : Nat) (s : Bs) : ex n col (10 :: s) = 10 :: ex n 0 s := by simp [ex]
theorem ex_else (n col : Nat) (c : UInt8) (s : Bs) (h9 : c ≠ 9) (h10 : c ≠ 10) : ex n col (c :: s) = c :: ex n (col + 1) s := by simp [ex, h9, h10]
theorem gap_pos (n col : Nat) (h : 0 < n) : 0 < gap n col := by unfold gap; have := Nat.mod_lt col h; omega
theorem gap_le (n col : Nat) : gap n col ≤ n := by unfold gap; omega
theorem gap_mod (n col : Nat) (h : 0 < n) : (col + gap n col) % n = 0 := by
  unfold gap
  have h1 := Nat.mod_lt col h
  have h2 := Nat.div_add_mod col n
  have : col + (n - col % n) = n * (col / n + 1) := by rw [Nat.mul_add, Nat.mul_one]; omega
  rw [this, Nat.mul_mod_right]
theorem gap_first (n col j : Nat) (h : 0 < n) (h1 : 1 ≤ j) (hj : j ≤ gap n col) (hm : (col + j) % n = 0) : j = gap n col := by
  unfold gap at *
  have h1 := Nat.mod_lt col h
  have e : (col + j) % n = (col % n + j) % n := by rw [Nat.mod_add_mod]
  rw [e] at hm
  by_cases hlt : col % n + j < n
  · rw [Nat.mod_eq_of_lt hlt] at hm; omega
  · omega
theorem ex_len (n : Nat) (h : 0 < n) (s : Bs) : ∀ col, (ex n col s).length ≤ n * s.length := by
  induction s with
  | nil => intro col; simp [ex]
  | cons c s ih =>
    intro col
    have hg := gap_le n col
    rw [List.length_cons, Nat.mul_add, Nat.mul_one]
    unfold ex
    split
    · have := ih (col + gap n col); simp; omega
    · split
      · have := ih 0; simp; omega
      · have := ih (col + 1); simp; omega
def noText : Value := .string { data := #[] }
def exAns (n : Int) (s : Bs) : Value :=
  if n < 1 ∨ 100 < n then .tuple #[noText, .int .i64 1] else if 1048576 < (ex n.toNat 0 s).length then .tuple #[noText, .int .i64 3] else .tuple #[.string ⟨(ex n.toNat 0 s).toArray⟩, .int .i64 0]
end Go.Proofs.YtpcklgbcabpilaaGreatDoor.Cu

/- Texts and lists of bytes in memory: small facts. -/
namespace Go.Proofs.YtpcklgbcabpilaaGreatDoor.Cu
open Go.RowKit

abbrev bs (s : ByteArray) : Bs := s.data.toList
theorem bs_len (s : ByteArray) : (bs s).length = s.size := rfl
theorem bs_at (s : ByteArray) (i : Nat) (h : i < s.size) : (bs s).drop i = s[i] :: (bs s).drop (i + 1) := List.drop_eq_getElem_cons (by simpa using h)
theorem bs_end (s : ByteArray) (i : Nat) (h : s.size ≤ i) : (bs s).drop i = [] := List.drop_eq_nil_of_le (by simpa using h)
theorem bs_ext (s : ByteArray) (i j : Nat) : bs (s.extract i j) = ((bs s).drop i).take (j - i) := by rw [Lib.extract_eq]
theorem bs_from (s : ByteArray) (i : Nat) : bs (s.extract i s.size) = (bs s).drop i := by
  rw [bs_ext, List.take_of_length_le (by rw [List.length_drop, bs_len]; exact Nat.le_refl _)]
theorem bs_to (s : ByteArray) (j : Nat) : bs (s.extract 0 j) = (bs s).take j := by rw [bs_ext]; rfl
theorem ba_ext {a b : ByteArray} (h : bs a = bs b) : a = b := by
  obtain ⟨x⟩ := a; obtain ⟨y⟩ := b
  congr 1
  exact Array.toList_inj.1 h
theorem size_from (s : ByteArray) (i : Nat) : (s.extract i s.size).size = s.size - i := by
  rw [← bs_len, bs_from, List.length_drop, bs_len]
theorem wrap_byte (n : Nat) : IntKind.u8.wrap (n : Int) = (n : Int) % 256 := by
  simp [IntKind.wrap, IntKind.signed, IntKind.bits]
theorem below_drew (w : World) (q : Nat) : Below w.heap.size w (w.drewN q) := ⟨rfl, rfl, rfl, Nat.le_refl _, fun _ _ => rfl⟩
theorem u8_ne {a b : UInt8} (h : ¬ (a.toNat : Int) = (b.toNat : Int)) : a ≠ b := fun e => h (by rw [e])
theorem u8_eq {a b : UInt8} (h : (a.toNat : Int) = (b.toNat : Int)) : a = b := UInt8.toNat_inj.1 (by omega)
theorem bs_one (s : ByteArray) (h : 0 < s.size) : bs s = s[0] :: (bs s).drop 1 := by
  have := bs_at s 0 h
  rwa [List.drop_zero] at this
theorem Tryz.infoByte : (Tryz.prog.info? 5).map (fun i => (i.zero, i.size, i.bytes)) = some (some (.int .u8 0), 1, 1) := by kernel_rfl
abbrev Row (B : Nat) (v : Value) (l : Bs) (w : World) : Prop := w.ownsRow B 5 1 v l.length (Lib.byteCells l)
theorem byte_new (w : World) (x : Value) (e : TypeId) : ∀ j u, [x][j]? = some u → (w.alloc (.cells #[x] e)).cell? ((⟨w.heap.size, 0, none⟩ : Addr).add j) = some u := by
  intro j u hj
  match j, hj with
  | 0, hj => simp at hj; subst hj; simp [Addr.add]
theorem byte_one (c : Int) : ∀ u ∈ [Value.int .u8 c], u.oneCell' = true := by
  intro u hu; simp at hu; subst hu; rfl
theorem row_snoc {w : World} {B : Nat} {v : Value} {l : Bs} {c : UInt8} {x : Int} (h : w.ownsRow B 5 1 v (l.length + 1) (Lib.byteCells l ++ [.int .u8 x])) (hx : x = c.toNat) : Row B v (l ++ [c]) w := by
  subst hx
  simpa [Row, Lib.byteCells] using h
theorem row_nil (w : World) (B : Nat) : Row B (.slice none 0 0) [] w := World.ownsRow_nil _ _ _ _
theorem row_slice {w : World} {B : Nat} {v : Value} {l : Bs} (h : Row B v l w) : ∃ a c, v = .slice a l.length c := by
  rcases h.2 with ⟨hv, h0⟩ | ⟨g, cap, cur, hv, _⟩
  · exact ⟨none, 0, by rw [hv, h0]⟩
  · exact ⟨_, _, hv⟩
theorem row_zero {w : World} {B g n cap : Nat} {l : Bs} (h : Row B (.slice (some ⟨g, 0, none⟩) n cap) l w) : Row B (.slice (some ⟨g, 0, none⟩) 0 cap) [] w := by
  rcases h.2 with ⟨h1, _⟩ | ⟨g', cap', cur, hv, hb, hg, h1, h2, h3, h4⟩
  · simp at h1
  · simp at hv
    obtain ⟨rfl, _, rfl⟩ := hv
    exact ⟨rfl, .inr ⟨g, cap, cur, rfl, hb, hg, Nat.zero_le _, h2, h3, by simp [Lib.byteCells]⟩⟩
theorem row_some {w : World} {B : Nat} {v : Value} {l : Bs} (h : Row B v l w) (h0 : 0 < l.length) : ∃ g c, v = .slice (some ⟨g, 0, none⟩) l.length c := by
  rcases h.2 with ⟨hv, h1⟩ | ⟨g, cap, cur, hv, _⟩
  · omega
  · exact ⟨_, _, hv⟩
theorem row_lo {w : World} {B : Nat} {v : Value} {l : Bs} (h : Row B v l w) : ∀ k, v.ownBlock = some k → B ≤ k := fun k hk => (h.lt k hk).1
theorem row_base {w : World} {B B' : Nat} {v : Value} {l : Bs} (h : Row B v l w) (hb : B' ≤ B) : Row B' v l w := by
  refine ⟨h.1, ?_⟩
  rcases h.2 with hn | ⟨g, cap, cur, rfl, hg, rest⟩
  · exact .inl hn
  · exact .inr ⟨g, cap, cur, rfl, by omega, rest⟩
theorem row_below {w w' : World} {B : Nat} {v : Value} {l : Bs} (h : Row B v l w) (hb : Below w.heap.size w w') : Row B v l w' :=
  h.kept (row := none) ⟨hb.os, hb.tape, hb.output, hb.size, fun k hk _ => hb.block k hk⟩ (by cases v.ownBlock <;> simp)
theorem grown_alloc {w w2 : World} {o : Obj} {row : Option Nat} (h : (w.alloc o).grownBy w2 row) : w.grownBy w2 row :=
  ⟨h.os, h.tape, h.output, Nat.le_trans (by simp) h.size, fun k hk hne => (h.block k (by simp; omega) hne).trans (Below.heap_alloc w o k hk)⟩
end Go.Proofs.YtpcklgbcabpilaaGreatDoor.Cu

/- A tree of files in plain words: when it may be; and a tree in memory. -/
namespace Go.Proofs.YtpcklgbcabpilaaGreatDoor.Tr
open Go.RowKit Go.Proofs.YtpcklgbcabpilaaGreatDoor.Cu

/-- a name of a directory -/
structure En where
  name : ByteArray
  node : Int
/-- a node -/
structure Nd where
  kind : UInt8
  mode : Int
  user : Int
  group : Int
  links : Int
  time : Int
  data : Bs
  target : ByteArray
  list : List En
  parent : Int
abbrev ez : En := ⟨⟨#[]⟩, 0⟩
abbrev nz : Nd := ⟨0, 0, 0, 0, 0, 0, [], ⟨#[]⟩, [], 0⟩
def nd (ns : List Nd) (i : Nat) : Nd := ns.getD i nz

def timeP (n : Int) : Bool := decide (0 ≤ n) && decide (n ≤ 1099511627775)
def ownerP (n : Int) : Bool := decide (0 ≤ n) && decide (n ≤ 65535)
def hasOwnerP (n : Nd) : Bool := decide (0 ≤ n.mode) && decide (n.mode ≤ 511) && ownerP n.user && ownerP n.group && timeP n.time
def noListP (n : Nd) : Bool := decide (n.list.length = 0) && decide (n.parent = 0)
def ltB (a b : ByteArray) : Bool := Op.bytesLess a.toList b.toList
def hasB (s : ByteArray) (c : UInt8) : Bool := decide (c ∈ bs s)
def nameP (s : ByteArray) : Bool := decide (1 ≤ s.size) && decide (s.size ≤ 64) && decide (s ≠ ⟨#[46]⟩) && decide (s ≠ ⟨#[46, 46]⟩) && !hasB s 0 && !hasB s 47
def targetP (s : ByteArray) : Bool := decide (1 ≤ s.size) && decide (s.size ≤ 1024) && !hasB s 0
def en (l : List En) (i : Nat) : En := l.getD i ez
def okE (l : List En) (i : Nat) : Bool := nameP (en l i).name && (decide (i = 0) || ltB (en l (i - 1)).name (en l i).name)
def allTo (k : Nat) (p : Nat → Bool) : Bool := (List.range k).all p
theorem allTo_succ (k : Nat) (p : Nat → Bool) : allTo (k + 1) p = (allTo k p && p k) := by simp [allTo, List.range_succ]
theorem allTo_true {k : Nat} {p : Nat → Bool} : allTo k p = true ↔ ∀ i, i < k → p i = true := by simp [allTo]
theorem allTo_false {k n : Nat} {p : Nat → Bool} (hk : k < n) (h : p k = false) : allTo n p = false := by
  cases e : allTo n p with
  | false => rfl
  | true => rw [allTo_true.1 e k hk] at h; cases h
def listP (l : List En) : Bool := decide (l.length ≤ 512) && allTo l.length (okE l)
def emptyB (s : ByteArray) : Bool := decide (s.size = 0)
def freeP (n : Nd) : Bool := decide (n.mode = 0) && decide (n.user = 0) && decide (n.group = 0) && decide (n.links = 0) && decide (n.time = 0) && decide (n.data.length = 0) && emptyB n.target && noListP n
def fileP (n : Nd) : Bool := hasOwnerP n && decide (n.data.length ≤ 65536) && emptyB n.target && noListP n
def dirP (n : Nd) : Bool := hasOwnerP n && listP n.list && decide (n.data.length = 0) && emptyB n.target
def linkP (n : Nd) : Bool := hasOwnerP n && decide (n.mode = 511) && targetP n.target && decide (n.data.length = 0) && noListP n
def kindP (n : Nd) : Bool := if n.kind = 0 then freeP n else if n.kind = 1 then fileP n else if n.kind = 2 then dirP n else if n.kind = 3 then linkP n else false
def rootP (ns : List Nd) : Bool := decide (2 ≤ ns.length) && decide (ns.length ≤ 513) && decide ((nd ns 0).kind = 0) && decide ((nd ns 1).kind = 2) && decide ((nd ns 1).parent = 1) && decide ((nd ns (ns.length - 1)).kind ≠ 0)
def bytesP (ns : List Nd) (k : Nat) : Nat := ((ns.take k).map fun n => n.data.length).sum
def namesP (ns : List Nd) (k : Nat) : Nat := ((ns.take k).map fun n => n.list.length).sum
def limitsP (ns : List Nd) : Bool := decide (bytesP ns ns.length ≤ 1048576) && decide (namesP ns ns.length ≤ 2048)
def nodeOk (ns : List Nd) (i : Nat) : Bool := kindP (nd ns i)
def nodesP (ns : List Nd) : Bool := allTo ns.length (nodeOk ns)

/-- a directory's names, one by one: T is what was listed so far, d how many of these names were directories -/
def goL (ns : List Nd) (vis : Nat → List Nat → Option (List Nat)) (dir : Nat) : List En → List Nat → Nat → Option (List Nat × Nat)
  | [], T, d => some (T, d)
  | e :: l, T, d =>
    if e.node ≤ 1 ∨ (ns.length : Int) ≤ e.node then none
    else if (nd ns e.node.toNat).kind = 0 then none
    else if (nd ns e.node.toNat).kind = 2 then
      if 1 < (e.node.toNat :: T).count e.node.toNat ∨ (nd ns e.node.toNat).parent ≠ dir then none
      else match vis e.node.toNat (e.node.toNat :: T) with
        | none => none
        | some T' => goL ns vis dir l T' (d + 1)
    else goL ns vis dir l (e.node.toNat :: T) d
/-- a directory and all that is within it -/
def visitP (ns : List Nd) : Nat → Nat → List Nat → Option (List Nat)
  | 0, _, _ => none
  | f + 1, dir, T => match goL ns (visitP ns f) dir (nd ns dir).list T 0 with
    | none => none
    | some (T', d) => if (nd ns dir).links = 2 + (d : Int) then some T' else none
/-- a node that is not free is listed, and as often as its Links say -/
def oneListed (ns : List Nd) (T : List Nat) (i : Nat) : Bool := decide ((nd ns i).kind = 0) || (!decide (T.count i = 0) && (decide ((nd ns i).kind = 2) || decide ((nd ns i).links = T.count i)))
def listedOk (ns : List Nd) (T : List Nat) (i : Nat) : Bool := oneListed ns T (i + 2)
def listedP (ns : List Nd) (T : List Nat) : Bool := allTo (ns.length - 2) (listedOk ns T)
def hangsP (ns : List Nd) : Bool := match visitP ns 33 1 [] with
  | none => false
  | some T => listedP ns T
def checkP (now : Int) (ns : List Nd) : Bool := timeP now && rootP ns && limitsP ns && nodesP ns && hangsP ns

/-! ### in memory -/
abbrev tyNode : TypeId := 82
def nc (n : Nd) (d l : Value) : List Value := [.int .u8 n.kind.toNat, .int .i64 n.mode, .int .i64 n.user, .int .i64 n.group, .int .i64 n.links, .int .i64 n.time, d, .string n.target, l, .int .i64 n.parent]
/-- the cells of a node lie at b, o -/
structure N10 (w : World) (b o : Nat) (n : Nd) (d l : Value) : Prop where
  c0 : w.cell? ⟨b, o, none⟩ = some (.int .u8 n.kind.toNat)
  c1 : w.cell? ⟨b, o + 1, none⟩ = some (.int .i64 n.mode)
  c2 : w.cell? ⟨b, o + 2, none⟩ = some (.int .i64 n.user)
  c3 : w.cell? ⟨b, o + 3, none⟩ = some (.int .i64 n.group)
  c4 : w.cell? ⟨b, o + 4, none⟩ = some (.int .i64 n.links)
  c5 : w.cell? ⟨b, o + 5, none⟩ = some (.int .i64 n.time)
  c6 : w.cell? ⟨b, o + 6, none⟩ = some d
  c7 : w.cell? ⟨b, o + 7, none⟩ = some (.string n.target)
  c8 : w.cell? ⟨b, o + 8, none⟩ = some l
  c9 : w.cell? ⟨b, o + 9, none⟩ = some (.int .i64 n.parent)
theorem N10.of {w w' : World} {b o : Nat} {n : Nd} {d l : Value} (h : N10 w b o n d l) (e : ∀ o, w'.cell? ⟨b, o, none⟩ = w.cell? ⟨b, o, none⟩) : N10 w' b o n d l :=
  ⟨(e _).trans h.c0, (e _).trans h.c1, (e _).trans h.c2, (e _).trans h.c3, (e _).trans h.c4, (e _).trans h.c5, (e _).trans h.c6, (e _).trans h.c7, (e _).trans h.c8, (e _).trans h.c9⟩
theorem N10.at {w : World} {b o : Nat} {n : Nd} {d l : Value} (h : ∀ j u, (nc n d l)[j]? = some u → w.cell? ⟨b, o + j, none⟩ = some u) : N10 w b o n d l :=
  ⟨h 0 _ rfl, h 1 _ rfl, h 2 _ rfl, h 3 _ rfl, h 4 _ rfl, h 5 _ rfl, h 6 _ rfl, h 7 _ rfl, h 8 _ rfl, h 9 _ rfl⟩
def ec (e : En) : List Value := [.string e.name, .int .i64 e.node]
structure E2 (w : World) (b o : Nat) (e : En) : Prop where
  c0 : w.cell? ⟨b, o, none⟩ = some (.string e.name)
  c1 : w.cell? ⟨b, o + 1, none⟩ = some (.int .i64 e.node)
theorem E2.of {w w' : World} {b o : Nat} {e : En} (h : E2 w b o e) (x : ∀ o, w'.cell? ⟨b, o, none⟩ = w.cell? ⟨b, o, none⟩) : E2 w' b o e := ⟨(x _).trans h.c0, (x _).trans h.c1⟩
/-- a list of names that came in: empty, or its cells lie at b, off -/
structure Eg (w : World) (a : Option Addr) (n cap : Nat) (es : List En) : Prop where
  len : es.length = n
  le : n ≤ cap
  nil : a = none → n = 0 ∧ cap = 0
  cells : n = 0 ∨ ∃ b off, a = some ⟨b, off, none⟩ ∧ b < w.heap.size ∧ ∀ i, i < n → E2 w b (off + i * 2) (en es i)
theorem Eg.below {w w' : World} {a : Option Addr} {n cap : Nat} {es : List En} (h : Eg w a n cap es) (hb : Below w.heap.size w w') : Eg w' a n cap es := by
  refine ⟨h.len, h.le, h.nil, ?_⟩
  rcases h.cells with h | ⟨b, off, e, hlt, hc⟩
  · exact .inl h
  · exact .inr ⟨b, off, e, Nat.lt_of_lt_of_le hlt hb.size, fun i hi => (hc i hi).of fun o => hb.cell hlt⟩
/-- bytes that came in -/
structure By (w : World) (a : Option Addr) (n cap : Nat) (l : Bs) : Prop where
  len : l.length = n
  le : n ≤ cap
  nil : a = none → n = 0 ∧ cap = 0
  cells : n = 0 ∨ ∃ b off, a = some ⟨b, off, none⟩ ∧ b < w.heap.size ∧ ∀ i, i < n → w.cell? ⟨b, off + i, none⟩ = some (.int .u8 (l.getD i 0).toNat)
theorem By.below {w w' : World} {a : Option Addr} {n cap : Nat} {l : Bs} (h : By w a n cap l) (hb : Below w.heap.size w w') : By w' a n cap l := by
  refine ⟨h.len, h.le, h.nil, ?_⟩
  rcases h.cells with h | ⟨b, off, e, hlt, hc⟩
  · exact .inl h
  · exact .inr ⟨b, off, e, Nat.lt_of_lt_of_le hlt hb.size, fun i hi => (hb.cell hlt).trans (hc i hi)⟩
/-- a node at b, o with all that it holds -/
def Nx (w : World) (b o : Nat) (n : Nd) : Prop := ∃ da dc la lc, N10 w b o n (.slice da n.data.length dc) (.slice la n.list.length lc) ∧ By w da n.data.length dc n.data ∧ Eg w la n.list.length lc n.list
theorem Nx.below {w w' : World} {b o : Nat} {n : Nd} (h : Nx w b o n) (hlt : b < w.heap.size) (hb : Below w.heap.size w w') : Nx w' b o n := by
  obtain ⟨da, dc, la, lc, h1, h2, h3⟩ := h
  exact ⟨da, dc, la, lc, h1.of fun o => hb.cell hlt, h2.below hb, h3.below hb⟩
/-- nodes that came in -/
structure Ng (w : World) (a : Option Addr) (n cap : Nat) (ns : List Nd) : Prop where
  len : ns.length = n
  le : n ≤ cap
  nil : a = none → n = 0 ∧ cap = 0
  cells : n = 0 ∨ ∃ b off, a = some ⟨b, off, none⟩ ∧ b < w.heap.size ∧ ∀ i, i < n → Nx w b (off + i * 10) (nd ns i)
theorem Ng.below {w w' : World} {a : Option Addr} {n cap : Nat} {ns : List Nd} (h : Ng w a n cap ns) (hb : Below w.heap.size w w') : Ng w' a n cap ns := by
  refine ⟨h.len, h.le, h.nil, ?_⟩
  rcases h.cells with h | ⟨b, off, e, hlt, hc⟩
  · exact .inl h
  · exact .inr ⟨b, off, e, Nat.lt_of_lt_of_le hlt hb.size, fun i hi => (hc i hi).below hlt hb⟩
/-- a node by value -/
abbrev na (n : Nd) (d l : Value) : Array Value := #[.int .u8 n.kind.toNat, .int .i64 n.mode, .int .i64 n.user, .int .i64 n.group, .int .i64 n.links, .int .i64 n.time, d, .string n.target, l, .int .i64 n.parent]
abbrev nv (n : Nd) (da : Option Addr) (dc : Nat) (la : Option Addr) (lc : Nat) : Value := .agg (na n (.slice da n.data.length dc) (.slice la n.list.length lc))
theorem below_drewN {w w' : World} (h : Below w.heap.size w w') (q : Nat) : Below w.heap.size w (w'.drewN q) := ⟨h.os, h.tape, h.output, h.size, h.block⟩
end Go.Proofs.YtpcklgbcabpilaaGreatDoor.Tr

/- What the small functions of package tree answer: times, owners, names, targets, nodes of each kind. -/
namespace Go.Proofs.YtpcklgbcabpilaaGreatDoor.Tr
open Go.RowKit Go.Proofs.YtpcklgbcabpilaaGreatDoor.Cu

set_option maxRecDepth 100000 in
set_option maxHeartbeats 1000000 in
theorem isTime_any (n : Int) (w : World) : Calls Tryz.prog 103 #[.int .i64 n] w fun e w' => e = .returned (.bool (timeP n)) ∧ w' = w := by
  by_cases a1 : 0 ≤ n
  case neg =>
    have hv : timeP n = false := by simp [timeP, a1]
    rw [hv]
    clear hv
    go_enter Tryz.func103, Tryz.ntmps103
    go_wp2
    go_ret
    exact ⟨rfl, rfl⟩
  by_cases a2 : n ≤ 1099511627775
  case neg =>
    have hv : timeP n = false := by simp [timeP, a1, a2]
    rw [hv]
    clear hv
    go_enter Tryz.func103, Tryz.ntmps103
    go_wp2
    go_ret
    exact ⟨rfl, rfl⟩
  have hv : timeP n = true := by simp [timeP, a1, a2]
  rw [hv]
  clear hv
  go_enter Tryz.func103, Tryz.ntmps103
  go_wp2
  go_ret
  exact ⟨rfl, rfl⟩
set_option maxRecDepth 100000 in
set_option maxHeartbeats 1000000 in
theorem isOwner_any (n : Int) (w : World) : Calls Tryz.prog 274 #[.int .i64 n] w fun e w' => e = .returned (.bool (ownerP n)) ∧ w' = w := by
  by_cases a1 : 0 ≤ n
  case neg =>
    have hv : ownerP n = false := by simp [ownerP, a1]
    rw [hv]
    clear hv
    go_enter Tryz.func274, Tryz.ntmps274
    go_wp2
    go_ret
    exact ⟨rfl, rfl⟩
  by_cases a2 : n ≤ 65535
  case neg =>
    have hv : ownerP n = false := by simp [ownerP, a1, a2]
    rw [hv]
    clear hv
    go_enter Tryz.func274, Tryz.ntmps274
    go_wp2
    go_ret
    exact ⟨rfl, rfl⟩
  have hv : ownerP n = true := by simp [ownerP, a1, a2]
  rw [hv]
  clear hv
  go_enter Tryz.func274, Tryz.ntmps274
  go_wp2
  go_ret
  exact ⟨rfl, rfl⟩
abbrev nO (n : Nd) (d l : Value) : Obj := .cells (na n d l) 82
set_option maxRecDepth 100000 in
set_option maxHeartbeats 1000000 in
theorem hasOwner_any (n : Nd) (da : Option Addr) (dl dc : Nat) (la : Option Addr) (ll lc : Nat) (w : World) (hd : n.data.length = dl) (hl : n.list.length = ll) : Calls Tryz.prog 260 #[.agg (na n (.slice da dl dc) (.slice la ll lc))] w fun e w' => e = .returned (.bool (hasOwnerP n)) ∧ w' = w.alloc (nO n (.slice da dl dc) (.slice la ll lc)) := by
  obtain ⟨kd, md, us, gr, lk, ti, dt, tg, ls, pa⟩ := n
  unfold nO na
  simp only at hd hl ⊢
  by_cases a1 : 0 ≤ md
  case neg =>
    have hv : hasOwnerP ⟨kd, md, us, gr, lk, ti, dt, tg, ls, pa⟩ = false := by simp [hasOwnerP, a1]
    rw [hv]
    clear hv
    clear hd hl
    go_enter Tryz.func260, Tryz.ntmps260
    go_wp2_with (first | (go_at_call 274; refine (isOwner_any _ _).mono ?_; rintro e w' ⟨rfl, rfl⟩) | (go_at_call 103; refine (isTime_any _ _).mono ?_; rintro e w' ⟨rfl, rfl⟩))
    go_ret
    exact ⟨rfl, rfl⟩
  by_cases a2 : md ≤ 511
  case neg =>
    have hv : hasOwnerP ⟨kd, md, us, gr, lk, ti, dt, tg, ls, pa⟩ = false := by simp [hasOwnerP, a1, a2]
    rw [hv]
    clear hv
    clear hd hl
    go_enter Tryz.func260, Tryz.ntmps260
    go_wp2_with (first | (go_at_call 274; refine (isOwner_any _ _).mono ?_; rintro e w' ⟨rfl, rfl⟩) | (go_at_call 103; refine (isTime_any _ _).mono ?_; rintro e w' ⟨rfl, rfl⟩))
    go_ret
    exact ⟨rfl, rfl⟩
  by_cases a3 : ownerP us = true
  case neg =>
    have hv : hasOwnerP ⟨kd, md, us, gr, lk, ti, dt, tg, ls, pa⟩ = false := by simp [hasOwnerP, a1, a2, a3]
    rw [hv]
    clear hv
    clear hd hl
    go_enter Tryz.func260, Tryz.ntmps260
    go_wp2_with (first | (go_at_call 274; refine (isOwner_any _ _).mono ?_; rintro e w' ⟨rfl, rfl⟩) | (go_at_call 103; refine (isTime_any _ _).mono ?_; rintro e w' ⟨rfl, rfl⟩))
    go_ret
    exact ⟨rfl, rfl⟩
  by_cases a4 : ownerP gr = true
  case neg =>
    have hv : hasOwnerP ⟨kd, md, us, gr, lk, ti, dt, tg, ls, pa⟩ = false := by simp [hasOwnerP, a1, a2, a3, a4]
    rw [hv]
    clear hv
    clear hd hl
    go_enter Tryz.func260, Tryz.ntmps260
    go_wp2_with (first | (go_at_call 274; refine (isOwner_any _ _).mono ?_; rintro e w' ⟨rfl, rfl⟩) | (go_at_call 103; refine (isTime_any _ _).mono ?_; rintro e w' ⟨rfl, rfl⟩))
    go_ret
    exact ⟨rfl, rfl⟩
  have hv : hasOwnerP ⟨kd, md, us, gr, lk, ti, dt, tg, ls, pa⟩ = timeP ti := by simp [hasOwnerP, a1, a2, a3, a4]
  rw [hv]
  clear hv
  clear hd hl
  go_enter Tryz.func260, Tryz.ntmps260
  go_wp2_with (first | (go_at_call 274; refine (isOwner_any _ _).mono ?_; rintro e w' ⟨rfl, rfl⟩) | (go_at_call 103; refine (isTime_any _ _).mono ?_; rintro e w' ⟨rfl, rfl⟩))
  go_ret
  exact ⟨rfl, rfl⟩
set_option maxRecDepth 100000 in
set_option maxHeartbeats 1000000 in
theorem hasNoList_any (n : Nd) (da : Option Addr) (dl dc : Nat) (la : Option Addr) (ll lc : Nat) (w : World) (hd : n.data.length = dl) (hl : n.list.length = ll) : Calls Tryz.prog 259 #[.agg (na n (.slice da dl dc) (.slice la ll lc))] w fun e w' => e = .returned (.bool (noListP n)) ∧ w' = w.alloc (nO n (.slice da dl dc) (.slice la ll lc)) := by
  obtain ⟨kd, md, us, gr, lk, ti, dt, tg, ls, pa⟩ := n
  unfold nO na noListP
  simp only at hd hl ⊢
  rw [hl]
  clear hd hl
  by_cases a1 : ll = 0
  case neg =>
    rw [show decide (ll = 0) = false by simp [a1], Bool.false_and]
    have a2 : ¬ (ll : Int) = 0 := by omega
    clear a1
    go_enter Tryz.func259, Tryz.ntmps259
    go_wp2
    go_ret
    exact ⟨rfl, rfl⟩
  subst a1
  by_cases a2 : pa = 0
  case neg =>
    rw [show (decide (0 = 0) && decide (pa = 0)) = false by simp [a2]]
    go_enter Tryz.func259, Tryz.ntmps259
    go_wp2
    go_ret
    exact ⟨by simp [a2], rfl⟩
  subst a2
  go_enter Tryz.func259, Tryz.ntmps259
  go_wp2
  go_ret
  exact ⟨rfl, rfl⟩
end Go.Proofs.YtpcklgbcabpilaaGreatDoor.Tr
