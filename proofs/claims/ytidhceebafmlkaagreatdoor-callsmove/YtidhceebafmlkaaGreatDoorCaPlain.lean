import Derived.Test.YtidhceebafmlkaaGreatDoorTrPath
import Derived.Lib.Join
import Derived.Test.YtidhceebafmlkaaGreatDoorPtFind
import Derived.Test.YtidhceebafmlkaaGreatDoorTrStatW
import Derived.Test.YtidhceebafmlkaaGreatDoorTrFind
namespace Go.Proofs.YtidhceebafmlkaaGreatDoor.Tr
open Go.RowKit Cu
theorem nd_out {ns : List Nd} {i : Nat} (h : ns.length ≤ i) : nd ns i = nz := by
  unfold nd; simp [List.getD, List.getElem?_eq_none h]
theorem kind_list {n : Nd} (h : kindP n = true) : (n.kind = 2 ∧ listP n.list = true) ∨ (n.kind ≠ 2 ∧ n.list = []) := by
  unfold kindP at h
  have hno : noListP n = true → n.list = [] := fun h => by
    unfold noListP at h
    simp only [Bool.and_eq_true, decide_eq_true_eq] at h
    exact List.eq_nil_of_length_eq_zero h.1
  split at h
  · rename_i e
    right
    unfold freeP at h
    simp only [Bool.and_eq_true] at h
    exact ⟨by rw [e]; decide, hno h.2⟩
  split at h
  · rename_i e
    right
    unfold fileP at h
    simp only [Bool.and_eq_true] at h
    exact ⟨by rw [e]; decide, hno h.2⟩
  split at h
  · rename_i e
    left
    unfold dirP at h
    simp only [Bool.and_eq_true] at h
    exact ⟨e, h.1.1.2⟩
  split at h
  · rename_i e
    right
    unfold linkP at h
    simp only [Bool.and_eq_true] at h
    exact ⟨by rw [e]; decide, hno h.2⟩
  · cases h
theorem lists_small {now : Int} {ns : List Nd} (h : checkP now ns = true) (i : Nat) : (nd ns i).list.length ≤ 512 := by
  by_cases hi : i < ns.length
  · rcases kind_list ((checkP_parts h).2.2.2.2.2.1 i hi) with ⟨_, h2⟩ | ⟨_, h2⟩
    · unfold listP at h2
      simp only [Bool.and_eq_true, decide_eq_true_eq] at h2
      exact h2.1
    · rw [h2]; simp
  · rw [nd_out (by omega)]; simp
theorem names_ok {now : Int} {ns : List Nd} (h : checkP now ns = true) (i : Nat) : ∀ e ∈ (nd ns i).list, nameP e.name = true := by
  intro e he
  by_cases hi : i < ns.length
  · rcases kind_list ((checkP_parts h).2.2.2.2.2.1 i hi) with ⟨_, h2⟩ | ⟨_, h2⟩
    · unfold listP at h2
      simp only [Bool.and_eq_true, decide_eq_true_eq] at h2
      obtain ⟨k, hk, rfl⟩ := List.getElem_of_mem he
      have := allTo_true.1 h2.2 k hk
      unfold okE at this
      simp only [Bool.and_eq_true] at this
      have e1 : en (nd ns i).list k = (nd ns i).list[k] := by simp [en, List.getD, List.getElem?_eq_getElem hk]
      rw [e1] at this; exact this.1
    · rw [h2] at he; simp at he
  · rw [nd_out (by omega)] at he; simp at he
theorem namesUp_ok {now : Int} {ns : List Nd} (h : checkP now ns = true) : ∀ s d, (∀ x ∈ namesUp ns s d, nameP x = true) ∧ (namesUp ns s d).length ≤ s * 512 := by
  intro s
  induction s with
  | zero => intro d; simp [namesUp]
  | succ s ih =>
    intro d
    obtain ⟨h1, h2⟩ := ih (nd ns d).parent.toNat
    unfold namesUp
    constructor
    · intro x hx
      rcases List.mem_append.1 hx with hx | hx
      · unfold hits at hx
        obtain ⟨e, he, rfl⟩ := List.mem_map.1 hx
        exact names_ok h _ e (List.mem_filter.1 he).1
      · exact h1 x hx
    · rw [List.length_append]
      have := hits_len (nd ns (nd ns d).parent.toNat).list d
      have := lists_small h (nd ns d).parent.toNat
      omega
theorem dir_up {now : Int} {ns : List Nd} {i : Nat} (h : isDirP now ns (i : Int) = true) : Up ns (depN ns 32 i) i ∧ depN ns 32 i ≤ 32 := by
  obtain ⟨h1, h2, h3, h4, _⟩ := dir_list h
  obtain ⟨s, hs, hu⟩ := ((hung_check h1).good i h3 h4).2
  rw [depN_up hu 32 hs]; exact ⟨hu, hs⟩
def namesTo (ns : List Nd) (i : Nat) : List ByteArray := (namesUp ns (depN ns 32 i) i).reverse
def depthV (now : Int) (ns : List Nd) (i : Int) : Int := if isDirP now ns i then ((namesTo ns i.toNat).length : Int) else 0
def joined (ns : List Nd) (i : Nat) : ByteArray := ⟨(Lib.join ((namesTo ns i).map (·.data.toList)) [47]).toArray⟩
def pathV (now : Int) (ns : List Nd) (i : Int) : Value := if isDirP now ns i then .tuple #[.string (⟨#[47]⟩ ++ joined ns i.toNat), .int .i64 0] else .tuple #[.string ⟨#[]⟩, .int .i64 1]
theorem namesTo_len {now : Int} {ns : List Nd} {i : Nat} (h : isDirP now ns (i : Int) = true) : (∀ x ∈ namesTo ns i, nameP x = true) ∧ (namesTo ns i).length ≤ 16384 := by
  have h1 := (dir_list h).1
  have h2 := (dir_up h).2
  obtain ⟨a, b⟩ := namesUp_ok h1 (depN ns 32 i) i
  unfold namesTo
  exact ⟨fun x hx => a x (List.mem_reverse.1 hx), by rw [List.length_reverse]; omega⟩
theorem namesAny {a : Option Addr} {n cap : Nat} {ns : List Nd} {now : Int} {i : Nat} {w : World} (h : Ng w a n cap ns) (hq : isDirP now ns (i : Int) = true) :
    Calls Tryz.prog 244 #[.agg #[.slice a n cap, .int .i64 now], .int .i64 i] w fun e w' => (∃ v, e = .returned v ∧ Nm w' w.heap.size v (namesTo ns i)) ∧ Below w.heap.size w w' :=
  namesTo_any a n cap ns now i (depN ns 32 i) w h (by rw [← h.len]; exact (checkP_parts (dir_list hq).1).1) (fun j => Nat.le_trans (lists_small (dir_list hq).1 j) (by decide)) (dir_up hq).1 (dir_up hq).2
theorem isDir_nat {now : Int} {ns : List Nd} {i : Int} (hq : isDirP now ns i = true) : ∃ k : Nat, i = (k : Int) := by
  unfold isDirP nodeP at hq
  simp only [Bool.and_eq_true, decide_eq_true_eq] at hq
  have := hq.1.1.1.2
  exact ⟨i.toNat, by omega⟩
set_option maxRecDepth 100000 in
set_option maxHeartbeats 1000000 in
theorem depth_any (a : Option Addr) (n cap : Nat) (ns : List Nd) (now i : Int) (w : World) (h : Ng w a n cap ns) (hs : Sm ns) :
    Calls Tryz.prog 192 #[.agg #[.slice a n cap, .int .i64 now], .int .i64 i] w fun e w' => e = .returned (.int .i64 (depthV now ns i)) ∧ Below w.heap.size w w' := by
  have HC : Hid (∀ W, Below w.heap.size w W → Calls Tryz.prog 112 #[.agg #[.slice a n cap, .int .i64 now], .int .i64 i] W fun e w' => e = .returned (.bool (isDirP now ns i)) ∧ Below W.heap.size W w') := fun W hW => isDir_any a n cap ns now i W (h.below hW) hs
  have hb0 : Hid (Below w.heap.size w (w.alloc (.cells #[.slice a n cap, .int .i64 now] 24))) := (Below.refl _ _).alloc (Nat.le_refl _) _
  unfold depthV
  cases hq : isDirP now ns i with
  | false =>
    rw [hq] at HC
    clear hq h hs
    simp only [Bool.false_eq_true, if_false]
    go_enter Tryz.func192, Tryz.ntmps192
    go_wp2_with fail
    refine (uh HC _ (uh hb0)).mono ?_
    rintro e w1 ⟨rfl, b1⟩
    have hB := hide (box_keep b1).2.1
    clear b1 HC
    go_wp2
    go_ret
    exact ⟨rfl, uh hB⟩
  | true =>
    rw [hq] at HC
    simp only [if_true]
    obtain ⟨k, rfl⟩ := isDir_nat hq
    rw [Int.toNat_natCast]
    have HN : Hid (∀ W, Below w.heap.size w W → Calls Tryz.prog 244 #[.agg #[.slice a n cap, .int .i64 now], .int .i64 k] W fun e w' => (∃ v, e = .returned v ∧ Nm w' W.heap.size v (namesTo ns k)) ∧ Below W.heap.size W w') := fun W hW => namesAny (h.below hW) hq
    generalize namesTo ns k = L at *
    clear h hs hq
    go_enter Tryz.func192, Tryz.ntmps192
    go_wp2_with fail
    refine (uh HC _ (uh hb0)).mono ?_
    rintro e w1 ⟨rfl, b1⟩
    have hB := hide (box_keep b1).2.1
    have c0 : w1.cell? ⟨w.heap.size, 0, none⟩ = some (.slice a n cap) := by rw [cell_of_row _ _ _ _ _ _ (box_keep b1).1]; rfl
    have c1 : w1.cell? ⟨w.heap.size, 1, none⟩ = some (.int .i64 now) := by rw [cell_of_row _ _ _ _ _ _ (box_keep b1).1]; rfl
    clear b1 HC
    go_wp2_with fail
    refine (uh HN _ (uh hB)).mono ?_
    rintro e w2 ⟨⟨v, rfl, av, cv, rfl, hle, -⟩, b2⟩
    have hB2 := hide ((uh hB).trans (b2.mono (uh hB).size))
    clear b2 HN c0 c1
    go_wp2
    go_ret
    exact ⟨rfl, uh hB2⟩
end Go.Proofs.YtidhceebafmlkaaGreatDoor.Tr

namespace Go.Proofs.YtidhceebafmlkaaGreatDoor.Ca
open Go.RowKit Cu Tr Pm Pt
structure Cl where
  kind : UInt8
  path : ByteArray
  other : ByteArray
  mode : Int
  user : Int
  group : Int
  time : Int
  data : Bs
  env : Ev
def rowOf (k : UInt8) : Nat × Bool × Bool :=
  if k = 1 ∨ k = 2 then (37, true, true) else if k = 3 then (5, true, false) else if k = 4 ∨ k = 5 then (1, true, false) else if k = 6 then (3, true, false) else if k = 7 then (3, false, false)
  else if k = 8 then (3, true, false) else if k = 9 then (5, true, true) else if k = 10 then (9, true, true) else if k = 11 then (17, true, true) else if k = 12 then (16, false, false) else (0, false, false)
def bitIf (b : Bool) (n : Nat) : Nat := if b then n else 0
def fieldsP (c : Cl) : Nat := bitIf (decide (c.path.size ≠ 0)) 1 + bitIf (decide (c.other.size ≠ 0)) 2 + bitIf (decide (c.mode ≠ 0)) 4 + bitIf (decide (c.user ≠ 0) || decide (c.group ≠ 0)) 8 + bitIf (decide (c.time ≠ 0)) 16 + bitIf (decide (c.data.length ≠ 0)) 32
def ownP (n : Int) : Bool := decide (-1 ≤ n) && decide (n ≤ 65535)
def mayBeP (c : Cl) : Bool := decide (c.kind ≠ 0) && decide (c.kind.toNat < 13) && sub (fieldsP c) (rowOf c.kind).1 &&
  decide (0 ≤ c.mode) && decide (c.mode ≤ 511) && ownP c.user && ownP c.group && decide ((if c.kind = 12 then 0 else -1) ≤ c.time) && decide (c.time ≤ 1099511627775)
structure Ac where
  now : Int
  ns : List Nd
  c : Cl
  p : Pl
  q : Pl
def wh (b : Bool) (k : Int) : Int := if b then k else 0
def orP : List Int → Int
  | [] => 0
  | x :: l => if x = 0 then orP l else x
abbrev Ans := (List Nd × Int) × Int
def no (k : Int) : Ans := (([], 0), k)
def yes (now : Int) (ns : List Nd) : Ans := ((ns, now), 0)
def isN (n : Nd) : Bool := decide (n.kind = 0)
def isD (n : Nd) : Bool := decide (n.kind = 2)
def nameless (p : Pl) : Bool := decide (p.name.size = 0)
def Ac.here (a : Ac) : Nd := nd a.ns a.p.node.toNat
def Ac.there (a : Ac) : Nd := nd a.ns a.q.node.toNat
def Ac.mayWrite (a : Ac) (d : Int) : Int := wh (!mayP (nd a.ns d.toNat) a.c.env 2) 10
def Ac.mayCome (a : Ac) (d : Int) : Int := orP [a.mayWrite d, wh (decide (512 ≤ (nd a.ns d.toNat).list.length) || decide (2048 ≤ namesP a.ns a.ns.length)) 11]
def Ac.hasFree (a : Ac) : Int := wh (decide (512 ≤ nodesN a.ns a.ns.length)) 11
def Ac.isBusy (a : Ac) (d : Int) : Bool := decide (0 < (nd a.ns d.toNat).list.length) || decide (d = a.c.env.dir)
def upd (ns : List Nd) (i : Nat) (f : Nd → Nd) : List Nd := ns.set i (f (nd ns i))
def posE (es : List En) (s : ByteArray) : Nat := (es.takeWhile fun e => ltB e.name s).length
def listD (now : Int) (ns : List Nd) (d : Nat) (s : ByteArray) (m : Nat) : List Nd :=
  let n1 := upd (upd ns d fun x => { x with list := insE x.list (posE x.list s) ⟨s, (m : Int)⟩ }) d fun x => { x with time := now }
  if (nd n1 m).kind = 2 then upd (upd n1 m fun x => { x with parent := (d : Int) }) d fun x => { x with links := x.links + 1 } else n1
def hasE (es : List En) (s : ByteArray) : Bool := decide (posE es s < es.length) && decide ((en es (posE es s)).name = s)
def unlistD (now : Int) (ns : List Nd) (d : Nat) (s : ByteArray) (m : Nat) : List Nd :=
  let n1 := upd (upd ns d fun x => { x with list := if hasE x.list s then delE x.list (posE x.list s) else x.list }) d fun x => { x with time := now }
  if (nd n1 m).kind = 2 then upd n1 d fun x => { x with links := x.links - 1 } else n1
def freeFrom (ns : List Nd) : Nat → Nat → Nat
  | 0, k => k
  | f + 1, k => if k < ns.length ∧ (nd ns k).kind ≠ 0 then freeFrom ns f (k + 1) else k
def freeAt (ns : List Nd) : Nat := freeFrom ns ns.length 2
def addD (now : Int) (ns : List Nd) (d : Nat) (s : ByteArray) (n : Nd) : List Nd × Nat :=
  let k := freeAt ns
  (listD now (if k = ns.length then ns ++ [n] else ns.set k n) d s k, k)
def lastAt (ns : List Nd) : Nat → Nat
  | 0 => 0
  | k + 1 => if 1 < k + 1 ∧ (nd ns (k + 1)).kind = 0 then lastAt ns k else k + 1
def loseD (ns : List Nd) (m : Nat) : List Nd :=
  let n1 := upd ns m fun x => { x with links := x.links - 1 }
  if 0 < (nd n1 m).links ∧ (nd n1 m).kind ≠ 2 then n1
  else
    let n2 := n1.set m nz
    n2.take (lastAt n2 (n2.length - 1) + 1)
def Ac.newNode (a : Ac) (k : UInt8) : Nd := ⟨k, bits .andNot .i64 a.c.mode a.c.env.mask, a.c.env.user, a.c.env.group, if k = 2 then 2 else 1, a.now, [], ⟨#[]⟩, [], 0⟩
def Ac.mayFill (a : Ac) : Int := if isN a.here then orP [a.mayCome a.p.dir, a.hasFree] else a.mayWrite a.p.node
def Ac.fill (a : Ac) (ahead : Bs) : Ans :=
  let long := ahead.length + a.c.data.length
  let err := orP [wh (decide (65536 < a.c.data.length)) 17, wh (nameless a.p || isD a.here || (isN a.here && a.p.dirs)) 8, a.mayFill, wh (decide (65536 < long)) 17, wh (decide (1048576 < (bytesP a.ns a.ns.length : Int) - (a.here.data.length : Int) + (long : Int))) 11]
  if err ≠ 0 then no err
  else
    let r := if isN a.here then addD a.now a.ns a.p.dir.toNat a.p.name (a.newNode 1) else (a.ns, a.p.node.toNat)
    yes a.now (upd (upd r.1 r.2 fun x => { x with data := ahead ++ a.c.data }) r.2 fun x => { x with time := a.now })
def Ac.mkdir (a : Ac) : Ans :=
  let err := orP [wh (nameless a.p || !isN a.here) 7, a.mayCome a.p.dir, wh (decide (32 ≤ depthV a.now a.ns a.p.dir)) 3, a.hasFree]
  if err ≠ 0 then no err else yes a.now (addD a.now a.ns a.p.dir.toNat a.p.name (a.newNode 2)).1
def Ac.removed (a : Ac) : List Nd := loseD (unlistD a.now a.ns a.p.dir.toNat a.p.name a.p.node.toNat) a.p.node.toNat
def Ac.rmdir (a : Ac) : Ans :=
  let err := orP [wh (nameless a.p) 14, wh (isN a.here) 6, wh (!isD a.here) 9, wh (a.isBusy a.p.node) 14, a.mayWrite a.p.dir]
  if err ≠ 0 then no err else yes a.now a.removed
def Ac.unlink (a : Ac) : Ans :=
  let err := orP [wh (nameless a.p) 8, wh (isN a.here) 6, wh (isD a.here) 8, a.mayWrite a.p.dir]
  if err ≠ 0 then no err else yes a.now a.removed
def Ac.mayName (a : Ac) : Int := orP [wh (nameless a.q || !isN a.there) 7, wh a.q.dirs 6, a.mayCome a.q.dir]
def Ac.link (a : Ac) : Ans :=
  let err := orP [wh (nameless a.p) 8, wh (isN a.here) 6, wh (isD a.here) 8, a.mayName]
  if err ≠ 0 then no err else yes a.now (upd (listD a.now a.ns a.q.dir.toNat a.q.name a.p.node.toNat) a.p.node.toNat fun x => { x with links := x.links + 1 })
def Ac.symlink (a : Ac) : Ans :=
  let err := orP [wh (decide (a.c.path.size = 0)) 6, wh (decide (1024 < a.c.path.size) || hasB a.c.path 0) 13, a.mayName, a.hasFree]
  if err ≠ 0 then no err else yes a.now (addD a.now a.ns a.q.dir.toNat a.q.name { a.newNode 3 with mode := 511, target := a.c.path }).1
def stepsUp (ns : List Nd) (t : Nat) : Nat → Nat → Nat × Bool
  | 0, x => (0, decide (x = t))
  | f + 1, x => if x ≠ t ∧ 1 < x then ((stepsUp ns t f (nd ns x).parent.toNat).1 + 1, (stepsUp ns t f (nd ns x).parent.toNat).2) else (0, decide (x = t))
def Ac.height (a : Ac) (d : Nat) : Nat := (List.range a.ns.length).foldl (fun h i => if isD (nd a.ns i) && (stepsUp a.ns d 33 i).2 then max h (stepsUp a.ns d 33 i).1 else h) 0
def Ac.mayTakePlace (a : Ac) : Int :=
  if isD a.here then orP [wh (stepsUp a.ns a.p.node.toNat 33 a.q.dir.toNat).2 15, wh (!isN a.there && !isD a.there) 9, wh (isD a.there && a.isBusy a.q.node) 14, wh (decide (32 < depthV a.now a.ns a.q.dir + 1 + (a.height a.p.node.toNat : Int))) 3]
  else orP [wh (isD a.there) 8, wh (isN a.there && a.q.dirs) 9]
def Ac.mayMove (a : Ac) : Int := orP [a.mayWrite a.p.dir, a.mayWrite a.q.dir, wh (isN a.there && decide (a.q.dir ≠ a.p.dir) && decide (512 ≤ (nd a.ns a.q.dir.toNat).list.length)) 11]
def Ac.rename (a : Ac) : Ans :=
  let err := orP [wh (nameless a.p || nameless a.q) 14, wh (isN a.here) 6]
  if err ≠ 0 then no err
  else if a.p.node = a.q.node then yes a.now a.ns
  else
    let err := orP [a.mayTakePlace, a.mayMove]
    if err ≠ 0 then no err
    else
      let n1 := if a.q.node ≠ 0 then loseD (unlistD a.now a.ns a.q.dir.toNat a.q.name a.q.node.toNat) a.q.node.toNat else a.ns
      yes a.now (listD a.now (unlistD a.now n1 a.p.dir.toNat a.p.name a.p.node.toNat) a.q.dir.toNat a.q.name a.p.node.toNat)
def told (n was : Int) : Int := if n = -1 then was else n
def Ac.chmod (a : Ac) : Ans :=
  let err := orP [wh (isN a.here) 6, wh (!ownsP a.here a.c.env) 10]
  if err ≠ 0 then no err else yes a.now (upd a.ns a.p.node.toNat fun x => { x with mode := a.c.mode })
def Ac.chown (a : Ac) : Ans :=
  let u := told a.c.user a.here.user
  let g := told a.c.group a.here.group
  let away := decide (u ≠ a.here.user) || (decide (g ≠ a.here.group) && decide (g ≠ a.c.env.group))
  let err := orP [wh (isN a.here) 6, wh (decide (a.c.env.user ≠ 0) && (away || !ownsP a.here a.c.env)) 10]
  if err ≠ 0 then no err else yes a.now (upd (upd a.ns a.p.node.toNat fun x => { x with user := u }) a.p.node.toNat fun x => { x with group := g })
def Ac.touch (a : Ac) : Ans :=
  let err := orP [wh (isN a.here) 6, wh (!ownsP a.here a.c.env && !mayP a.here a.c.env 2) 10]
  if err ≠ 0 then no err else yes a.now (upd a.ns a.p.node.toNat fun x => { x with time := told a.c.time a.now })
def Ac.tick (a : Ac) : Ans := yes (min (a.now + a.c.time) 1099511627775) a.ns
def Ac.does (a : Ac) : Ans :=
  if a.c.kind = 1 then a.fill [] else if a.c.kind = 2 then a.fill a.here.data else if a.c.kind = 3 then a.mkdir else if a.c.kind = 4 then a.rmdir else if a.c.kind = 5 then a.unlink else if a.c.kind = 6 then a.link
  else if a.c.kind = 7 then a.symlink else if a.c.kind = 8 then a.rename else if a.c.kind = 9 then a.chmod else if a.c.kind = 10 then a.chown else if a.c.kind = 11 then a.touch else a.tick
def findBoth (now : Int) (ns : List Nd) (c : Cl) : (Pl × Pl) × Int :=
  let r := if (rowOf c.kind).2.1 then findA now ns c.env c.path (rowOf c.kind).2.2 else (pz, 0)
  if r.2 ≠ 0 then ((r.1, pz), r.2)
  else if c.kind = 6 ∨ c.kind = 7 ∨ c.kind = 8 then
    let s := findA now ns c.env c.other false
    ((r.1, s.1), s.2)
  else ((r.1, pz), 0)
def doP (now : Int) (ns : List Nd) (c : Cl) : Ans :=
  if mayBeP c = false ∨ someP now ns c.env = false then no 1
  else if (findBoth now ns c).2 ≠ 0 then no (findBoth now ns c).2
  else (Ac.mk now ns c (findBoth now ns c).1.1 (findBoth now ns c).1.2).does
end Go.Proofs.YtidhceebafmlkaaGreatDoor.Ca
