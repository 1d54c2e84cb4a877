import Derived.Test.YtidhceebafmlkaaGreatDoorRows
import Derived.WalkKit
import Derived.WalkSpells
import Derived.MapKept
import Derived.Carry
import Derived.Deep.QuietTactic
import Derived.BigQuiet
import Derived.Lib.AppendStr
import Derived.Lib.Builder
import Derived.Lib.Strings
import Derived.Laws.AppendOwnNone
import Derived.Laws.OwnMore
import Derived.Lib.UnsafeStr
import Derived.Lib.Bytealg
import Derived.Deep.RegionHeld3
import Derived.Laws.Cover1
namespace Go.Proofs.YtidhceebafmlkaaGreatDoor.Cu
open Go.RowKit
abbrev Bs := List UInt8
theorem hide {p : Prop} (h : p) : Hid p := h
theorem uh {p : Prop} (h : Hid p) : p := h
def gap (n col : Nat) : Nat := n - col % n
def ex (n : Nat) : Nat → Bs → Bs
  | _, [] => []
  | col, c :: s => if c = 9 then List.replicate (gap n col) 32 ++ ex n (col + gap n col) s else if c = 10 then 10 :: ex n 0 s else c :: ex n (col + 1) s
def noText : Value := .string { data := #[] }
def exAns (n : Int) (s : Bs) : Value :=
  if n < 1 ∨ 100 < n then .tuple #[noText, .int .i64 1] else if 1048576 < (ex n.toNat 0 s).length then .tuple #[noText, .int .i64 3] else .tuple #[.string ⟨(ex n.toNat 0 s).toArray⟩, .int .i64 0]
end Go.Proofs.YtidhceebafmlkaaGreatDoor.Cu

namespace Go.Proofs.YtidhceebafmlkaaGreatDoor.Cu
open Go.RowKit
abbrev bs (s : ByteArray) : Bs := s.data.toList
theorem bs_len (s : ByteArray) : (bs s).length = s.size := rfl
theorem ba_ext {a b : ByteArray} (h : bs a = bs b) : a = b := by
  obtain ⟨x⟩ := a; obtain ⟨y⟩ := b
  congr 1
  exact Array.toList_inj.1 h
theorem below_drew (w : World) (q : Nat) : Below w.heap.size w (w.drewN q) := ⟨rfl, rfl, rfl, Nat.le_refl _, fun _ _ => rfl⟩
theorem Tryz.infoByte : (Tryz.prog.info? 5).map (fun i => (i.zero, i.size, i.bytes)) = some (some (.int .u8 0), 1, 1) := by kernel_rfl
abbrev Row (B : Nat) (v : Value) (l : Bs) (w : World) : Prop := w.ownsRow B 5 1 v l.length (Lib.byteCells l)
theorem byte_new (w : World) (x : Value) (e : TypeId) : ∀ j u, [x][j]? = some u → (w.alloc (.cells #[x] e)).cell? ((⟨w.heap.size, 0, none⟩ : Addr).add j) = some u := by
  intro j u hj
  match j, hj with
  | 0, hj => simp at hj; subst hj; simp [Addr.add]
end Go.Proofs.YtidhceebafmlkaaGreatDoor.Cu

namespace Go.Proofs.YtidhceebafmlkaaGreatDoor.Tr
open Go.RowKit Cu
structure En where
  name : ByteArray
  node : Int
structure Nd where
  kind : UInt8
  mode : Int
  user : Int
  group : Int
  links : Int
  time : Int
  data : Bs
  target : ByteArray
  list : List En
  parent : Int
abbrev ez : En := ⟨⟨#[]⟩, 0⟩
abbrev nz : Nd := ⟨0, 0, 0, 0, 0, 0, [], ⟨#[]⟩, [], 0⟩
def nd (ns : List Nd) (i : Nat) : Nd := ns.getD i nz
def timeP (n : Int) : Bool := decide (0 ≤ n) && decide (n ≤ 1099511627775)
def ownerP (n : Int) : Bool := decide (0 ≤ n) && decide (n ≤ 65535)
def hasOwnerP (n : Nd) : Bool := decide (0 ≤ n.mode) && decide (n.mode ≤ 511) && ownerP n.user && ownerP n.group && timeP n.time
def noListP (n : Nd) : Bool := decide (n.list.length = 0) && decide (n.parent = 0)
def ltB (a b : ByteArray) : Bool := Op.bytesLess a.toList b.toList
def hasB (s : ByteArray) (c : UInt8) : Bool := decide (c ∈ bs s)
def nameP (s : ByteArray) : Bool := decide (1 ≤ s.size) && decide (s.size ≤ 64) && decide (s ≠ ⟨#[46]⟩) && decide (s ≠ ⟨#[46, 46]⟩) && !hasB s 0 && !hasB s 47
def targetP (s : ByteArray) : Bool := decide (1 ≤ s.size) && decide (s.size ≤ 1024) && !hasB s 0
def en (l : List En) (i : Nat) : En := l.getD i ez
def okE (l : List En) (i : Nat) : Bool := nameP (en l i).name && (decide (i = 0) || ltB (en l (i - 1)).name (en l i).name)
def allTo (k : Nat) (p : Nat → Bool) : Bool := (List.range k).all p
theorem allTo_succ (k : Nat) (p : Nat → Bool) : allTo (k + 1) p = (allTo k p && p k) := by simp [allTo, List.range_succ]
theorem allTo_true {k : Nat} {p : Nat → Bool} : allTo k p = true ↔ ∀ i, i < k → p i = true := by simp [allTo]
theorem allTo_false {k n : Nat} {p : Nat → Bool} (hk : k < n) (h : p k = false) : allTo n p = false := by
  cases e : allTo n p with
  | false => rfl
  | true => rw [allTo_true.1 e k hk] at h; cases h
def listP (l : List En) : Bool := decide (l.length ≤ 512) && allTo l.length (okE l)
def emptyB (s : ByteArray) : Bool := decide (s.size = 0)
def freeP (n : Nd) : Bool := decide (n.mode = 0) && decide (n.user = 0) && decide (n.group = 0) && decide (n.links = 0) && decide (n.time = 0) && decide (n.data.length = 0) && emptyB n.target && noListP n
def fileP (n : Nd) : Bool := hasOwnerP n && decide (n.data.length ≤ 65536) && emptyB n.target && noListP n
def dirP (n : Nd) : Bool := hasOwnerP n && listP n.list && decide (n.data.length = 0) && emptyB n.target
def linkP (n : Nd) : Bool := hasOwnerP n && decide (n.mode = 511) && targetP n.target && decide (n.data.length = 0) && noListP n
def kindP (n : Nd) : Bool := if n.kind = 0 then freeP n else if n.kind = 1 then fileP n else if n.kind = 2 then dirP n else if n.kind = 3 then linkP n else false
def rootP (ns : List Nd) : Bool := decide (2 ≤ ns.length) && decide (ns.length ≤ 513) && decide ((nd ns 0).kind = 0) && decide ((nd ns 1).kind = 2) && decide ((nd ns 1).parent = 1) && decide ((nd ns (ns.length - 1)).kind ≠ 0)
def bytesP (ns : List Nd) (k : Nat) : Nat := ((ns.take k).map fun n => n.data.length).sum
def namesP (ns : List Nd) (k : Nat) : Nat := ((ns.take k).map fun n => n.list.length).sum
def limitsP (ns : List Nd) : Bool := decide (bytesP ns ns.length ≤ 1048576) && decide (namesP ns ns.length ≤ 2048)
def nodeOk (ns : List Nd) (i : Nat) : Bool := kindP (nd ns i)
def nodesP (ns : List Nd) : Bool := allTo ns.length (nodeOk ns)
def goL (ns : List Nd) (vis : Nat → List Nat → Option (List Nat)) (dir : Nat) : List En → List Nat → Nat → Option (List Nat × Nat)
  | [], T, d => some (T, d)
  | e :: l, T, d =>
    if e.node ≤ 1 ∨ (ns.length : Int) ≤ e.node then none
    else if (nd ns e.node.toNat).kind = 0 then none
    else if (nd ns e.node.toNat).kind = 2 then
      if 1 < (e.node.toNat :: T).count e.node.toNat ∨ (nd ns e.node.toNat).parent ≠ dir then none
      else match vis e.node.toNat (e.node.toNat :: T) with
        | none => none
        | some T' => goL ns vis dir l T' (d + 1)
    else goL ns vis dir l (e.node.toNat :: T) d
def visitP (ns : List Nd) : Nat → Nat → List Nat → Option (List Nat)
  | 0, _, _ => none
  | f + 1, dir, T => match goL ns (visitP ns f) dir (nd ns dir).list T 0 with
    | none => none
    | some (T', d) => if (nd ns dir).links = 2 + (d : Int) then some T' else none
def oneListed (ns : List Nd) (T : List Nat) (i : Nat) : Bool := decide ((nd ns i).kind = 0) || (!decide (T.count i = 0) && (decide ((nd ns i).kind = 2) || decide ((nd ns i).links = T.count i)))
def listedOk (ns : List Nd) (T : List Nat) (i : Nat) : Bool := oneListed ns T (i + 2)
def listedP (ns : List Nd) (T : List Nat) : Bool := allTo (ns.length - 2) (listedOk ns T)
def hangsP (ns : List Nd) : Bool := match visitP ns 33 1 [] with
  | none => false
  | some T => listedP ns T
def checkP (now : Int) (ns : List Nd) : Bool := timeP now && rootP ns && limitsP ns && nodesP ns && hangsP ns
abbrev tyNode : TypeId := 82
def nc (n : Nd) (d l : Value) : List Value := [.int .u8 n.kind.toNat, .int .i64 n.mode, .int .i64 n.user, .int .i64 n.group, .int .i64 n.links, .int .i64 n.time, d, .string n.target, l, .int .i64 n.parent]
structure N10 (w : World) (b o : Nat) (n : Nd) (d l : Value) : Prop where
  c0 : w.cell? ⟨b, o, none⟩ = some (.int .u8 n.kind.toNat)
  c1 : w.cell? ⟨b, o + 1, none⟩ = some (.int .i64 n.mode)
  c2 : w.cell? ⟨b, o + 2, none⟩ = some (.int .i64 n.user)
  c3 : w.cell? ⟨b, o + 3, none⟩ = some (.int .i64 n.group)
  c4 : w.cell? ⟨b, o + 4, none⟩ = some (.int .i64 n.links)
  c5 : w.cell? ⟨b, o + 5, none⟩ = some (.int .i64 n.time)
  c6 : w.cell? ⟨b, o + 6, none⟩ = some d
  c7 : w.cell? ⟨b, o + 7, none⟩ = some (.string n.target)
  c8 : w.cell? ⟨b, o + 8, none⟩ = some l
  c9 : w.cell? ⟨b, o + 9, none⟩ = some (.int .i64 n.parent)
theorem N10.of {w w' : World} {b o : Nat} {n : Nd} {d l : Value} (h : N10 w b o n d l) (e : ∀ o, w'.cell? ⟨b, o, none⟩ = w.cell? ⟨b, o, none⟩) : N10 w' b o n d l :=
  ⟨(e _).trans h.c0, (e _).trans h.c1, (e _).trans h.c2, (e _).trans h.c3, (e _).trans h.c4, (e _).trans h.c5, (e _).trans h.c6, (e _).trans h.c7, (e _).trans h.c8, (e _).trans h.c9⟩
theorem N10.at {w : World} {b o : Nat} {n : Nd} {d l : Value} (h : ∀ j u, (nc n d l)[j]? = some u → w.cell? ⟨b, o + j, none⟩ = some u) : N10 w b o n d l :=
  ⟨h 0 _ rfl, h 1 _ rfl, h 2 _ rfl, h 3 _ rfl, h 4 _ rfl, h 5 _ rfl, h 6 _ rfl, h 7 _ rfl, h 8 _ rfl, h 9 _ rfl⟩
def ec (e : En) : List Value := [.string e.name, .int .i64 e.node]
structure E2 (w : World) (b o : Nat) (e : En) : Prop where
  c0 : w.cell? ⟨b, o, none⟩ = some (.string e.name)
  c1 : w.cell? ⟨b, o + 1, none⟩ = some (.int .i64 e.node)
theorem E2.of {w w' : World} {b o : Nat} {e : En} (h : E2 w b o e) (x : ∀ o, w'.cell? ⟨b, o, none⟩ = w.cell? ⟨b, o, none⟩) : E2 w' b o e := ⟨(x _).trans h.c0, (x _).trans h.c1⟩
structure Eg (w : World) (a : Option Addr) (n cap : Nat) (es : List En) : Prop where
  len : es.length = n
  le : n ≤ cap
  nil : a = none → n = 0 ∧ cap = 0
  cells : n = 0 ∨ ∃ b off, a = some ⟨b, off, none⟩ ∧ b < w.heap.size ∧ ∀ i, i < n → E2 w b (off + i * 2) (en es i)
theorem Eg.below {w w' : World} {a : Option Addr} {n cap : Nat} {es : List En} (h : Eg w a n cap es) (hb : Below w.heap.size w w') : Eg w' a n cap es := by
  refine ⟨h.len, h.le, h.nil, ?_⟩
  rcases h.cells with h | ⟨b, off, e, hlt, hc⟩
  · exact .inl h
  · exact .inr ⟨b, off, e, Nat.lt_of_lt_of_le hlt hb.size, fun i hi => (hc i hi).of fun o => hb.cell hlt⟩
structure By (w : World) (a : Option Addr) (n cap : Nat) (l : Bs) : Prop where
  len : l.length = n
  le : n ≤ cap
  nil : a = none → n = 0 ∧ cap = 0
  cells : n = 0 ∨ ∃ b off, a = some ⟨b, off, none⟩ ∧ b < w.heap.size ∧ ∀ i, i < n → w.cell? ⟨b, off + i, none⟩ = some (.int .u8 (l.getD i 0).toNat)
theorem By.below {w w' : World} {a : Option Addr} {n cap : Nat} {l : Bs} (h : By w a n cap l) (hb : Below w.heap.size w w') : By w' a n cap l := by
  refine ⟨h.len, h.le, h.nil, ?_⟩
  rcases h.cells with h | ⟨b, off, e, hlt, hc⟩
  · exact .inl h
  · exact .inr ⟨b, off, e, Nat.lt_of_lt_of_le hlt hb.size, fun i hi => (hb.cell hlt).trans (hc i hi)⟩
def Nx (w : World) (b o : Nat) (n : Nd) : Prop := ∃ da dc la lc, N10 w b o n (.slice da n.data.length dc) (.slice la n.list.length lc) ∧ By w da n.data.length dc n.data ∧ Eg w la n.list.length lc n.list
theorem Nx.below {w w' : World} {b o : Nat} {n : Nd} (h : Nx w b o n) (hlt : b < w.heap.size) (hb : Below w.heap.size w w') : Nx w' b o n := by
  obtain ⟨da, dc, la, lc, h1, h2, h3⟩ := h
  exact ⟨da, dc, la, lc, h1.of fun o => hb.cell hlt, h2.below hb, h3.below hb⟩
structure Ng (w : World) (a : Option Addr) (n cap : Nat) (ns : List Nd) : Prop where
  len : ns.length = n
  le : n ≤ cap
  nil : a = none → n = 0 ∧ cap = 0
  cells : n = 0 ∨ ∃ b off, a = some ⟨b, off, none⟩ ∧ b < w.heap.size ∧ ∀ i, i < n → Nx w b (off + i * 10) (nd ns i)
theorem Ng.below {w w' : World} {a : Option Addr} {n cap : Nat} {ns : List Nd} (h : Ng w a n cap ns) (hb : Below w.heap.size w w') : Ng w' a n cap ns := by
  refine ⟨h.len, h.le, h.nil, ?_⟩
  rcases h.cells with h | ⟨b, off, e, hlt, hc⟩
  · exact .inl h
  · exact .inr ⟨b, off, e, Nat.lt_of_lt_of_le hlt hb.size, fun i hi => (hc i hi).below hlt hb⟩
abbrev na (n : Nd) (d l : Value) : Array Value := #[.int .u8 n.kind.toNat, .int .i64 n.mode, .int .i64 n.user, .int .i64 n.group, .int .i64 n.links, .int .i64 n.time, d, .string n.target, l, .int .i64 n.parent]
abbrev nv (n : Nd) (da : Option Addr) (dc : Nat) (la : Option Addr) (lc : Nat) : Value := .agg (na n (.slice da n.data.length dc) (.slice la n.list.length lc))
theorem below_drewN {w w' : World} (h : Below w.heap.size w w') (q : Nat) : Below w.heap.size w (w'.drewN q) := ⟨h.os, h.tape, h.output, h.size, h.block⟩
end Go.Proofs.YtidhceebafmlkaaGreatDoor.Tr

namespace Go.Proofs.YtidhceebafmlkaaGreatDoor.Tr
open Go.RowKit Cu
set_option maxRecDepth 100000 in
set_option maxHeartbeats 1000000 in
theorem isTime_any (n : Int) (w : World) : Calls Tryz.prog 103 #[.int .i64 n] w fun e w' => e = .returned (.bool (timeP n)) ∧ w' = w := by
  by_cases a1 : 0 ≤ n
  case neg =>
    have hv : timeP n = false := by simp [timeP, a1]
    rw [hv]
    clear hv
    go_enter Tryz.func103, Tryz.ntmps103
    go_wp2
    go_ret
    exact ⟨rfl, rfl⟩
  by_cases a2 : n ≤ 1099511627775
  case neg =>
    have hv : timeP n = false := by simp [timeP, a1, a2]
    rw [hv]
    clear hv
    go_enter Tryz.func103, Tryz.ntmps103
    go_wp2
    go_ret
    exact ⟨rfl, rfl⟩
  have hv : timeP n = true := by simp [timeP, a1, a2]
  rw [hv]
  clear hv
  go_enter Tryz.func103, Tryz.ntmps103
  go_wp2
  go_ret
  exact ⟨rfl, rfl⟩
set_option maxRecDepth 100000 in
set_option maxHeartbeats 1000000 in
theorem isOwner_any (n : Int) (w : World) : Calls Tryz.prog 274 #[.int .i64 n] w fun e w' => e = .returned (.bool (ownerP n)) ∧ w' = w := by
  by_cases a1 : 0 ≤ n
  case neg =>
    have hv : ownerP n = false := by simp [ownerP, a1]
    rw [hv]
    clear hv
    go_enter Tryz.func274, Tryz.ntmps274
    go_wp2
    go_ret
    exact ⟨rfl, rfl⟩
  by_cases a2 : n ≤ 65535
  case neg =>
    have hv : ownerP n = false := by simp [ownerP, a1, a2]
    rw [hv]
    clear hv
    go_enter Tryz.func274, Tryz.ntmps274
    go_wp2
    go_ret
    exact ⟨rfl, rfl⟩
  have hv : ownerP n = true := by simp [ownerP, a1, a2]
  rw [hv]
  clear hv
  go_enter Tryz.func274, Tryz.ntmps274
  go_wp2
  go_ret
  exact ⟨rfl, rfl⟩
abbrev nO (n : Nd) (d l : Value) : Obj := .cells (na n d l) 82
set_option maxRecDepth 100000 in
set_option maxHeartbeats 1000000 in
theorem hasOwner_any (n : Nd) (da : Option Addr) (dl dc : Nat) (la : Option Addr) (ll lc : Nat) (w : World) (hd : n.data.length = dl) (hl : n.list.length = ll) : Calls Tryz.prog 260 #[.agg (na n (.slice da dl dc) (.slice la ll lc))] w fun e w' => e = .returned (.bool (hasOwnerP n)) ∧ w' = w.alloc (nO n (.slice da dl dc) (.slice la ll lc)) := by
  obtain ⟨kd, md, us, gr, lk, ti, dt, tg, ls, pa⟩ := n
  unfold nO na
  simp only at hd hl ⊢
  by_cases a1 : 0 ≤ md
  case neg =>
    have hv : hasOwnerP ⟨kd, md, us, gr, lk, ti, dt, tg, ls, pa⟩ = false := by simp [hasOwnerP, a1]
    rw [hv]
    clear hv
    clear hd hl
    go_enter Tryz.func260, Tryz.ntmps260
    go_wp2_with (first | (go_at_call 274; refine (isOwner_any _ _).mono ?_; rintro e w' ⟨rfl, rfl⟩) | (go_at_call 103; refine (isTime_any _ _).mono ?_; rintro e w' ⟨rfl, rfl⟩))
    go_ret
    exact ⟨rfl, rfl⟩
  by_cases a2 : md ≤ 511
  case neg =>
    have hv : hasOwnerP ⟨kd, md, us, gr, lk, ti, dt, tg, ls, pa⟩ = false := by simp [hasOwnerP, a1, a2]
    rw [hv]
    clear hv
    clear hd hl
    go_enter Tryz.func260, Tryz.ntmps260
    go_wp2_with (first | (go_at_call 274; refine (isOwner_any _ _).mono ?_; rintro e w' ⟨rfl, rfl⟩) | (go_at_call 103; refine (isTime_any _ _).mono ?_; rintro e w' ⟨rfl, rfl⟩))
    go_ret
    exact ⟨rfl, rfl⟩
  by_cases a3 : ownerP us = true
  case neg =>
    have hv : hasOwnerP ⟨kd, md, us, gr, lk, ti, dt, tg, ls, pa⟩ = false := by simp [hasOwnerP, a1, a2, a3]
    rw [hv]
    clear hv
    clear hd hl
    go_enter Tryz.func260, Tryz.ntmps260
    go_wp2_with (first | (go_at_call 274; refine (isOwner_any _ _).mono ?_; rintro e w' ⟨rfl, rfl⟩) | (go_at_call 103; refine (isTime_any _ _).mono ?_; rintro e w' ⟨rfl, rfl⟩))
    go_ret
    exact ⟨rfl, rfl⟩
  by_cases a4 : ownerP gr = true
  case neg =>
    have hv : hasOwnerP ⟨kd, md, us, gr, lk, ti, dt, tg, ls, pa⟩ = false := by simp [hasOwnerP, a1, a2, a3, a4]
    rw [hv]
    clear hv
    clear hd hl
    go_enter Tryz.func260, Tryz.ntmps260
    go_wp2_with (first | (go_at_call 274; refine (isOwner_any _ _).mono ?_; rintro e w' ⟨rfl, rfl⟩) | (go_at_call 103; refine (isTime_any _ _).mono ?_; rintro e w' ⟨rfl, rfl⟩))
    go_ret
    exact ⟨rfl, rfl⟩
  have hv : hasOwnerP ⟨kd, md, us, gr, lk, ti, dt, tg, ls, pa⟩ = timeP ti := by simp [hasOwnerP, a1, a2, a3, a4]
  rw [hv]
  clear hv
  clear hd hl
  go_enter Tryz.func260, Tryz.ntmps260
  go_wp2_with (first | (go_at_call 274; refine (isOwner_any _ _).mono ?_; rintro e w' ⟨rfl, rfl⟩) | (go_at_call 103; refine (isTime_any _ _).mono ?_; rintro e w' ⟨rfl, rfl⟩))
  go_ret
  exact ⟨rfl, rfl⟩
set_option maxRecDepth 100000 in
set_option maxHeartbeats 1000000 in
theorem hasNoList_any (n : Nd) (da : Option Addr) (dl dc : Nat) (la : Option Addr) (ll lc : Nat) (w : World) (hd : n.data.length = dl) (hl : n.list.length = ll) : Calls Tryz.prog 259 #[.agg (na n (.slice da dl dc) (.slice la ll lc))] w fun e w' => e = .returned (.bool (noListP n)) ∧ w' = w.alloc (nO n (.slice da dl dc) (.slice la ll lc)) := by
  obtain ⟨kd, md, us, gr, lk, ti, dt, tg, ls, pa⟩ := n
  unfold nO na noListP
  simp only at hd hl ⊢
  rw [hl]
  clear hd hl
  by_cases a1 : ll = 0
  case neg =>
    rw [show decide (ll = 0) = false by simp [a1], Bool.false_and]
    have a2 : ¬ (ll : Int) = 0 := by omega
    clear a1
    go_enter Tryz.func259, Tryz.ntmps259
    go_wp2
    go_ret
    exact ⟨rfl, rfl⟩
  subst a1
  by_cases a2 : pa = 0
  case neg =>
    rw [show (decide (0 = 0) && decide (pa = 0)) = false by simp [a2]]
    go_enter Tryz.func259, Tryz.ntmps259
    go_wp2
    go_ret
    exact ⟨by simp [a2], rfl⟩
  subst a2
  go_enter Tryz.func259, Tryz.ntmps259
  go_wp2
  go_ret
  exact ⟨rfl, rfl⟩
end Go.Proofs.YtidhceebafmlkaaGreatDoor.Tr

namespace Go.Proofs.YtidhceebafmlkaaGreatDoor.Tr
open Go.RowKit Cu
theorem indexByte_neg (l : Bs) (c : UInt8) : (c ∈ l ∧ 0 ≤ Lib.indexByte l c) ∨ (¬ c ∈ l ∧ Lib.indexByte l c = -1) := by
  induction l with
  | nil => right; simp [Lib.indexByte]
  | cons b l ih =>
    by_cases h : b = c
    · left; subst h; simp [Lib.indexByte]
    · have h1 : (b == c) = false := by simpa using h
      have h2 : ¬ c = b := fun e => h e.symm
      rw [Lib.indexByte, h1]
      simp only [Bool.false_eq_true, if_false, List.mem_cons, h2, false_or]
      rcases ih with ⟨h3, h4⟩ | ⟨h3, h4⟩
      · left
        have h5 : (Lib.indexByte l c == -1) = false := by rw [beq_eq_false_iff_ne]; omega
        rw [h5]; simp [h3]; omega
      · right
        rw [h4]; simp [h3]
set_option maxHeartbeats 1000000 in
set_option maxRecDepth 100000 in
theorem indexByte_any (s : ByteArray) (c : UInt8) (w : World) :
    Calls Tryz.prog 182 #[.string s, .int .u8 c.toNat] w fun e w' => e = .returned (.int .i64 (Lib.indexByte (bs s) c)) ∧ w' = w := by
  have hrun : ∀ (w : World), Calls Tryz.prog 235 #[.string s, .int .u8 c.toNat] w fun e w' => e = .returned (.int .i64 (Lib.indexByte (bs s) c)) ∧ w' = w := by
    intro w
    go_enter Tryz.func235, Tryz.ntmps235
    go_wp2
    rw [run_callFunc_extern Tryz.func263 (by kernel_rfl) (by kernel_rfl) (by kernel_rfl) (e := Extern.BytealgIndexByte.indexByte) (by kernel_rfl), Lib.run_indexByteString]
    simp only [Result.andThen]
    rw [Oper.upon_value]
    go_wp2
    go_ret
    refine ⟨congrArg (fun b => Ending.returned (.int .i64 (Lib.indexByte (bs s) b))) ?_, rfl⟩
    simp
  have HR := hide hrun
  clear hrun
  go_enter Tryz.func182, Tryz.ntmps182
  go_wp2_with fail
  refine (uh HR _).mono ?_
  rintro e w' ⟨rfl, rfl⟩
  go_wp2_with fail
  go_ret
  exact ⟨rfl, rfl⟩
theorem indexHas (s : ByteArray) (c : UInt8) : ∃ ix : Int, (∀ w : World, Calls Tryz.prog 182 #[.string s, .int .u8 c.toNat] w fun e w' => e = .returned (.int .i64 ix) ∧ w' = w) ∧ ((hasB s c = true ∧ 0 ≤ ix) ∨ (hasB s c = false ∧ ix = -1)) := by
  refine ⟨_, fun w => indexByte_any s c w, ?_⟩
  unfold hasB
  rcases indexByte_neg (bs s) c with ⟨h, h2⟩ | ⟨h, h2⟩
  · left; exact ⟨by simp [h], h2⟩
  · right; exact ⟨by simp [h], h2⟩
set_option maxRecDepth 100000 in
set_option maxHeartbeats 1000000 in
theorem isTarget_any (s : ByteArray) (w : World) : Calls Tryz.prog 262 #[.string s] w fun e w' => e = .returned (.bool (targetP s)) ∧ w' = w := by
  obtain ⟨i0, H0, h0⟩ := indexHas s 0
  have HI := hide H0
  clear H0
  by_cases a1 : 1 ≤ (s.size : Int)
  case neg =>
    rw [show targetP s = false by simp [targetP]; omega]
    clear h0
    go_enter Tryz.func262, Tryz.ntmps262
    go_wp2
    go_ret
    exact ⟨rfl, rfl⟩
  by_cases a2 : (s.size : Int) ≤ 1024
  case neg =>
    rw [show targetP s = false by simp [targetP]; omega]
    clear h0
    go_enter Tryz.func262, Tryz.ntmps262
    go_wp2
    go_ret
    exact ⟨rfl, rfl⟩
  have a3 : targetP s = !hasB s 0 := by
    unfold targetP
    rw [show decide (1 ≤ s.size) = true by simp; omega, show decide (s.size ≤ 1024) = true by simp; omega]; rfl
  rw [a3]
  clear a3
  rcases h0 with ⟨hh, hi⟩ | ⟨hh, rfl⟩
  · rw [hh]
    go_enter Tryz.func262, Tryz.ntmps262
    go_wp2_with (go_at_call 182; refine (uh HI _).mono ?_; rintro e w' ⟨rfl, rfl⟩)
    go_ret
    exact ⟨by simp; omega, rfl⟩
  · rw [hh]
    go_enter Tryz.func262, Tryz.ntmps262
    go_wp2_with (go_at_call 182; refine (uh HI _).mono ?_; rintro e w' ⟨rfl, rfl⟩)
    go_ret
    exact ⟨rfl, rfl⟩
set_option maxRecDepth 100000 in
set_option maxHeartbeats 1000000 in
theorem isName_any (s : ByteArray) (w : World) : Calls Tryz.prog 275 #[.string s] w fun e w' => e = .returned (.bool (nameP s)) ∧ w' = w := by
  obtain ⟨i0, H0, h0⟩ := indexHas s 0
  obtain ⟨i1, H1, h1⟩ := indexHas s 47
  have HI := hide H0
  have HJ := hide H1
  clear H0 H1
  by_cases a1 : 1 ≤ (s.size : Int)
  case neg =>
    rw [show nameP s = false by simp [nameP]; omega]
    clear h0 h1
    go_enter Tryz.func275, Tryz.ntmps275
    go_wp2
    go_ret
    exact ⟨rfl, rfl⟩
  by_cases a2 : (s.size : Int) ≤ 64
  case neg =>
    rw [show nameP s = false by simp [nameP]; omega]
    clear h0 h1
    go_enter Tryz.func275, Tryz.ntmps275
    go_wp2
    go_ret
    exact ⟨rfl, rfl⟩
  have a3 : nameP s = (decide (s ≠ ⟨#[46]⟩) && decide (s ≠ ⟨#[46, 46]⟩) && !hasB s 0 && !hasB s 47) := by
    unfold nameP
    rw [show decide (1 ≤ s.size) = true by simp; omega, show decide (s.size ≤ 64) = true by simp; omega]; rfl
  rw [a3]
  clear a3
  by_cases b1 : s = ⟨#[46]⟩
  · rw [show decide (s ≠ ⟨#[46]⟩) = false by simp [b1]]
    subst b1
    clear h0 h1 a1 a2
    simp only [Bool.false_and]
    go_enter Tryz.func275, Tryz.ntmps275
    go_wp2
    go_ret
    exact ⟨rfl, rfl⟩
  by_cases b2 : s = ⟨#[46, 46]⟩
  · rw [show decide (s ≠ ⟨#[46, 46]⟩) = false by simp [b2], Bool.and_false]
    subst b2
    clear h0 h1 a1 a2
    simp only [Bool.false_and]
    go_enter Tryz.func275, Tryz.ntmps275
    go_wp2
    go_ret
    exact ⟨rfl, rfl⟩
  rw [show decide (s ≠ ⟨#[46]⟩) = true by simp [b1], show decide (s ≠ ⟨#[46, 46]⟩) = true by simp [b2]]
  have c1 : ¬ s.toList = [46] := fun h => b1 (ba_ext (by rw [ByteArray.toList_eq] at h; exact h))
  have c2 : ¬ s.toList = [46, 46] := fun h => b2 (ba_ext (by rw [ByteArray.toList_eq] at h; exact h))
  clear b1 b2
  rcases h0 with ⟨hh, hi⟩ | ⟨hh, rfl⟩
  · rw [hh]
    clear hh h1
    simp only [Bool.not_true, Bool.and_false, Bool.false_and]
    go_enter Tryz.func275, Tryz.ntmps275
    go_wp2_with (go_at_call 182; refine (uh HI _).mono ?_; rintro e w' ⟨rfl, rfl⟩)
    go_ret
    exact ⟨rfl, rfl⟩
  rw [hh]
  rcases h1 with ⟨h2, hi⟩ | ⟨h2, rfl⟩
  · rw [h2]
    clear h2 hh
    go_enter Tryz.func275, Tryz.ntmps275
    go_wp2_with (first | (go_at_call 182; refine (uh HI _).mono ?_; rintro e w' ⟨rfl, rfl⟩) | (go_at_call 182; refine (uh HJ _).mono ?_; rintro e w' ⟨rfl, rfl⟩))
    go_ret
    exact ⟨by simp [c1, c2]; omega, rfl⟩
  · rw [h2]
    clear h2 hh
    go_enter Tryz.func275, Tryz.ntmps275
    go_wp2_with (first | (go_at_call 182; refine (uh HI _).mono ?_; rintro e w' ⟨rfl, rfl⟩) | (go_at_call 182; refine (uh HJ _).mono ?_; rintro e w' ⟨rfl, rfl⟩))
    go_ret
    exact ⟨by simp [c1, c2], rfl⟩
end Go.Proofs.YtidhceebafmlkaaGreatDoor.Tr

namespace Go.Proofs.YtidhceebafmlkaaGreatDoor.Tr
open Go.RowKit Cu
theorem wrap_small (x : Int) (h : -9223372036854775808 ≤ x) (h' : x ≤ 9223372036854775807) : IntKind.i64.wrap x = x := by
  rw [IntWalk.i64_left]; unfold wrap64; omega
set_option maxRecDepth 100000 in
set_option maxHeartbeats 1000000 in
theorem isList_any (a : Option Addr) (n cap : Nat) (es : List En) (w : World) (h : Eg w a n cap es) : Calls Tryz.prog 261 #[.slice a n cap] w fun e w' => e = .returned (.bool (listP es)) ∧ Below w.heap.size w w' := by
  by_cases a1 : (n : Int) ≤ 512
  case neg =>
    rw [show listP es = false by simp [listP, h.len]; omega]
    go_enter Tryz.func261, Tryz.ntmps261
    go_wp2
    go_ret
    exact ⟨rfl, Below.refl _ _⟩
  have hP : listP es = allTo n (okE es) := by
    unfold listP
    rw [h.len, show decide (n ≤ 512) = true by simp; omega]; rfl
  rw [hP]
  clear hP
  rcases h.cells with rfl | ⟨b, off, rfl, hb, hc⟩
  · go_enter Tryz.func261, Tryz.ntmps261
    go_wp2
    refine wp_loop_rounds 1 ?_
    rw [rounds_succ]
    go_wp2
    go_ret
    exact ⟨rfl, Below.refl _ _⟩
  have HC := hide hc
  clear hc h
  go_enter Tryz.func261, Tryz.ntmps261
  go_wp2
  go_loopw [10] (fun i wr => ∃ k : Nat, k ≤ n ∧ i = .int .i64 k ∧ Hid (allTo k (okE es) = true) ∧ Hid (Below w.heap.size w wr)) (fun i _ => n - (intOf i).toNat)
  case atStart => exact ⟨0, Nat.zero_le _, rfl, rfl, Below.refl _ _⟩
  case round =>
    obtain ⟨k, hk, rfl, hall, hnx⟩ := hrel
    have hsz := (uh hnx).size
    by_cases hlt : k < n
    · have hlt' : (k : Int) < (n : Int) := by omega
      have hc := (uh HC k hlt).of fun o => (uh hnx).cell (p := ⟨b, o, none⟩) hb
      have hc0 := hc.c0
      have hc1 := hc.c1
      clear hc
      have hB2 : Hid (∀ o, Below w.heap.size w (wr.alloc o)) := fun o => (uh hnx).alloc hsz o
      have hokk : okE es k = (nameP (en es k).name && (decide (k = 0) || ltB (en es (k - 1)).name (en es k).name)) := rfl
      have hs := hide (allTo_succ k (okE es))
      have hf := hide (fun h => allTo_false (p := okE es) hlt h)
      have hpre : k = 0 ∨ ∃ j, k = j + 1 ∧ wr.cell? ⟨b, off + j * 2, none⟩ = some (.string (en es j).name) := by
        cases k with
        | zero => exact .inl rfl
        | succ j => exact .inr ⟨j, rfl, ((uh HC j (by omega)).of fun o => (uh hnx).cell (p := ⟨b, o, none⟩) hb).c0⟩
      obtain ⟨nm, hnm⟩ : ∃ x, x = (en es k).name := ⟨_, rfl⟩
      obtain ⟨no, hno⟩ : ∃ x, x = (en es k).node := ⟨_, rfl⟩
      rw [← hnm] at hc0 hokk
      rw [← hno] at hc1
      clear hno hnm
      have HN : Hid (∀ W, Calls Tryz.prog 275 #[.string nm] W fun e w' => e = .returned (.bool (nameP nm)) ∧ w' = W) := fun W => isName_any nm W
      cases hN : nameP nm with
      | false =>
        rw [hN] at hokk HN
        have hF := hide (uh hf (by rw [hokk]; rfl))
        clear hf hs hokk hpre hN
        go_wp2
        go_quiet ((go_at_call 275; exact Calls.quiet_of_same (uh HN _)))
        go_wp2
        go_ret
        exact ⟨by rw [uh hF]; rfl, below_drewN (uh hB2 _) _⟩
      | true =>
        rw [hN] at hokk HN
        rcases hpre with hk0 | ⟨j, hkj, hcj⟩
        · rw [show okE es k = true by rw [hokk, hk0]; rfl] at hs
          have hd : decide (0 < k) = false := by simp; omega
          clear hf hokk hN hk0
          go_wp2
          go_quiet ((go_at_call 275; exact Calls.quiet_of_same (uh HN _)))
          go_wp2
          go_roundw
          case rel => exact ⟨k + 1, by omega, by go_num, hide (by rw [uh hs, uh hall]; rfl), below_drewN (uh hB2 _) _⟩
          case measure => simp [intOf]; omega
        · obtain ⟨pm, hpm⟩ : ∃ x, x = (en es j).name := ⟨_, rfl⟩
          rw [show k - 1 = j by omega, ← hpm, show decide (k = 0) = false by simp; omega] at hokk
          rw [← hpm] at hcj
          have hw : IntKind.i64.wrap ((k : Int) - 1) = (j : Int) := by rw [show (k : Int) - 1 = (j : Int) by omega]; exact wrap_small _ (by omega) (by omega)
          have hj : j < n := by omega
          have hbw : b < wr.heap.size := by omega
          have hd : decide (0 < k) = true := by simp; omega
          clear hpm hN hkj
          unfold ltB at hokk
          cases hL : Op.bytesLess pm.toList nm.toList with
          | false =>
            rw [hL] at hokk
            have hF := hide (uh hf (by rw [hokk]; rfl))
            clear hf hs hokk
            go_wp2
            go_quiet ((go_at_call 275; exact Calls.quiet_of_same (uh HN _)))
            go_wp2
            go_ret
            exact ⟨by rw [uh hF]; rfl, below_drewN (uh hB2 _) _⟩
          | true =>
            rw [show okE es k = true by rw [hokk, hL]; rfl] at hs
            clear hf hokk
            go_wp2
            go_quiet ((go_at_call 275; exact Calls.quiet_of_same (uh HN _)))
            go_wp2
            go_roundw
            case rel => exact ⟨k + 1, by omega, by go_num, hide (by rw [uh hs, uh hall]; rfl), below_drewN (uh hB2 _) _⟩
            case measure => simp [intOf]; omega
    · have e : k = n := by omega
      subst e
      go_wp2
      go_ret
      exact ⟨by rw [uh hall]; rfl, uh hnx⟩
end Go.Proofs.YtidhceebafmlkaaGreatDoor.Tr
