import Derived.Test.YtidhceebafmlkaaGreatDoorTrPure
import Derived.Test.YtidhceebafmlkaaGreatDoorPtStr
import Derived.Test.YtidhceebafmlkaaGreatDoorPmMay
import Derived.Test.YtidhceebafmlkaaGreatDoorTrFind
import Derived.Shelf.Small.Strs
import Derived.Shelf.Strconv.Itoa0
import Derived.Shelf.Strings.Search1
import Derived.Shelf.Strings.FieldsFuncAny
import Derived.Test.YtidhceebafmlkaaGreatDoorProg
namespace Go.Proofs.YtidhceebafmlkaaGreatDoor.Tr
open Go.RowKit Cu
def okTo (ns : List Nd) (d : Nat) (e : En) : Prop := 1 < e.node ∧ e.node < (ns.length : Int) ∧ (nd ns e.node.toNat).kind ≠ 0 ∧ ((nd ns e.node.toNat).kind = 2 → (nd ns e.node.toNat).parent = (d : Int))
def dirsIn (ns : List Nd) (l : List En) : Nat := (l.filter fun e => decide ((nd ns e.node.toNat).kind = 2)).length
def Cond (ns : List Nd) (d : Nat) : Prop := (∀ e ∈ (nd ns d).list, okTo ns d e) ∧ (nd ns d).links = 2 + (dirsIn ns (nd ns d).list : Int)
inductive Up (ns : List Nd) : Nat → Nat → Prop
  | root : Up ns 0 1
  | step {s x p : Nat} : 1 < x → x < ns.length → (nd ns x).kind = 2 → (nd ns x).parent = (p : Int) → Up ns s p → Up ns (s + 1) x
theorem goL_cond (ns : List Nd) (vis : Nat → List Nat → Option (List Nat)) (p : Nat → Prop) (dir : Nat) (hp : ∀ x, 1 < x → x < ns.length → (nd ns x).kind = 2 → (nd ns x).parent = (dir : Int) → ∀ T T', (∀ y ∈ T, (nd ns y).kind = 2 → y ≠ x → p y) → vis x T = some T' → ∀ y ∈ T', (nd ns y).kind = 2 → p y) :
    ∀ (l : List En) (T : List Nat) (d : Nat) (T' : List Nat) (d' : Nat), (∀ y ∈ T, (nd ns y).kind = 2 → p y) → goL ns vis dir l T d = some (T', d') →
      (∀ e ∈ l, okTo ns dir e) ∧ d' = d + dirsIn ns l ∧ ∀ y ∈ T', (nd ns y).kind = 2 → p y := by
  intro l
  induction l with
  | nil => intro T d T' d' h e; simp [goL] at e; obtain ⟨rfl, rfl⟩ := e; exact ⟨by simp, rfl, h⟩
  | cons e l ih =>
    intro T d T' d' h hg
    unfold goL at hg
    split at hg
    · cases hg
    rename_i hr
    split at hg
    · cases hg
    rename_i hk0
    split at hg
    · rename_i hk2
      split at hg
      · cases hg
      · rename_i hc
        split at hg
        · cases hg
        · rename_i T1 hT1
          have hpar : (nd ns e.node.toNat).parent = (dir : Int) := Decidable.byContradiction fun h => hc (.inr h)
          have h1 := hp e.node.toNat (by omega) (by omega) hk2 hpar (e.node.toNat :: T) T1 (by
            intro y hy hky hne
            rcases List.mem_cons.1 hy with rfl | hy
            · exact absurd rfl hne
            · exact h y hy hky) hT1
          obtain ⟨a1, a2, a3⟩ := ih _ _ _ _ h1 hg
          refine ⟨?_, ?_, a3⟩
          · intro x hx
            rcases List.mem_cons.1 hx with rfl | hx
            · exact ⟨by omega, by omega, hk0, fun _ => hpar⟩
            · exact a1 x hx
          · rw [a2]; unfold dirsIn; rw [List.filter_cons, if_pos (by simp [hk2]), List.length_cons]; omega
    · rename_i hk2
      have h1 : ∀ y ∈ e.node.toNat :: T, (nd ns y).kind = 2 → p y := by
        intro y hy hky
        rcases List.mem_cons.1 hy with rfl | hy
        · exact absurd hky hk2
        · exact h y hy hky
      obtain ⟨a1, a2, a3⟩ := ih _ _ _ _ h1 hg
      refine ⟨?_, ?_, a3⟩
      · intro x hx
        rcases List.mem_cons.1 hx with rfl | hx
        · exact ⟨by omega, by omega, hk0, fun h => absurd h hk2⟩
        · exact a1 x hx
      · rw [a2]; unfold dirsIn; rw [List.filter_cons, if_neg (by simp [hk2])]
def Good (ns : List Nd) (x : Nat) : Prop := Cond ns x ∧ ∃ s, s ≤ 32 ∧ Up ns s x
theorem visitP_cond (ns : List Nd) : ∀ (f x : Nat) (T T' : List Nat) (A : Nat → Prop), f ≤ 33 → Up ns (33 - f) x → (∀ y ∈ T, (nd ns y).kind = 2 → y = x ∨ A y ∨ Good ns y) → visitP ns f x T = some T' →
    Good ns x ∧ ∀ y ∈ T', (nd ns y).kind = 2 → A y ∨ Good ns y := by
  intro f
  induction f with
  | zero => intro x T T' A _ _ _ h; cases h
  | succ f ih =>
    intro x T T' A hf hup hT h
    unfold visitP at h
    split at h
    · cases h
    · rename_i T1 d hg
      split at h
      · rename_i hlk
        cases h
        have hux : ∃ s, s ≤ 32 ∧ Up ns s x := ⟨33 - (f + 1), by omega, hup⟩
        obtain ⟨a1, a2, a3⟩ := goL_cond ns (visitP ns f) (fun y => y = x ∨ A y ∨ Good ns y) x (by
          intro z hz1 hz2 hz3 hz4 T2 T3 h2 h3 y hy hky
          have huz : Up ns (33 - f) z := by
            have : 33 - f = (33 - (f + 1)) + 1 := by omega
            rw [this]; exact Up.step hz1 hz2 hz3 hz4 hup
          have h4 := (ih z T2 T3 (fun y => y = x ∨ A y) (by omega) huz (fun y hy hk => by
            by_cases ez : y = z
            · exact .inl ez
            · right
              rcases h2 y hy hk ez with h | h | h
              · exact .inl (.inl h)
              · exact .inl (.inr h)
              · exact .inr h) h3).2 y hy hky
          rcases h4 with (h | h) | h
          · exact .inl h
          · exact .inr (.inl h)
          · exact .inr (.inr h)) _ _ _ _ _ hT hg
        rw [Nat.zero_add] at a2
        subst a2
        have hgx : Good ns x := ⟨⟨a1, hlk⟩, hux⟩
        refine ⟨hgx, fun y hy hk => ?_⟩
        rcases a3 y hy hk with rfl | h
        · exact .inr hgx
        · exact h
      · cases h
def times (ns : List Nd) (x : Nat) : Nat := sumTo ns.length fun y => if (nd ns y).kind = 2 then (tg ns y).count x else 0
theorem wsum_count (x : Nat) (T : List Nat) : wsum (fun z => if z = x then 1 else 0) T = T.count x := by
  induction T with
  | nil => rfl
  | cons y T ih =>
    rw [wsum_cons, ih]
    by_cases e : y = x
    · subst e; rw [List.count_cons_self, if_pos rfl]; omega
    · rw [List.count_cons_of_ne e, if_neg e]; omega
structure Hung (ns : List Nd) : Prop where
  good : ∀ d, d < ns.length → (nd ns d).kind = 2 → Good ns d
  listed : ∀ x, 2 ≤ x → x < ns.length → (nd ns x).kind ≠ 0 → 1 ≤ times ns x
  once : ∀ x, 2 ≤ x → x < ns.length → (nd ns x).kind = 2 → times ns x = 1
  links : ∀ x, 2 ≤ x → x < ns.length → (nd ns x).kind ≠ 0 → (nd ns x).kind ≠ 2 → (nd ns x).links = (times ns x : Int)
theorem hung_of {ns : List Nd} (h1 : 1 < ns.length) (h0 : (nd ns 0).kind = 0) (hk : (nd ns 1).kind = 2) (h : hangsP ns = true) : Hung ns := by
  unfold hangsP at h
  split at h
  · cases h
  rename_i T hT
  have ho := visitP_once ns 33 1 [] T (once_nil ns) hT
  have hi := visitP_in ns (fun x => 1 < x ∧ x < ns.length) (fun x a b _ => ⟨a, b⟩) 33 1 [] T (by simp) hT
  have hg := visitP_cond ns 33 1 [] T (fun _ => False) (Nat.le_refl _) Up.root (by simp) hT
  unfold listedP at h
  have hl : ∀ x, 2 ≤ x → x < ns.length → (nd ns x).kind ≠ 0 → 1 ≤ T.count x ∧ ((nd ns x).kind ≠ 2 → (nd ns x).links = (T.count x : Int)) := by
    intro x hx2 hxn hxk
    have := allTo_true.1 h (x - 2) (by omega)
    unfold listedOk oneListed at this
    rw [show x - 2 + 2 = x by omega] at this
    simp only [Bool.or_eq_true, Bool.and_eq_true, Bool.not_eq_true', decide_eq_true_eq, decide_eq_false_iff_not] at this
    rcases this with h | ⟨h, h'⟩
    · exact absurd h hxk
    · refine ⟨by omega, fun h2 => ?_⟩
      rcases h' with h' | h'
      · exact absurd h' h2
      · exact h'
  have hc1 : T.count 1 = 0 := List.count_eq_zero.2 fun hm => by have := (hi 1 hm).1; omega
  have ht : ∀ x, T.count x = times ns x := by
    intro x
    have hs := visitP_sum ns (fun z => if z = x then 1 else 0) 33 1 [] T hT
    rw [wsum_count, wsum_count, wsum_count, show wsum (below ns fun z => if z = x then 1 else 0) [] = 0 from rfl, List.count_nil] at hs
    have e1 : wsum (below ns fun z => if z = x then 1 else 0) T = sumTo ns.length fun y => T.count y * (if (nd ns y).kind = 2 then (tg ns y).count x else 0) := by
      unfold wsum
      rw [sum_count ns.length _ T fun y hy => (hi y hy).2]
      refine sumTo_eq _ _ _ fun y _ => ?_
      unfold below
      rw [wsum_count]
    have e2 : times ns x = sumTo ns.length (fun y => T.count y * (if (nd ns y).kind = 2 then (tg ns y).count x else 0) + if y = 1 then (tg ns y).count x else 0) := by
      unfold times
      refine sumTo_eq _ _ _ fun y hy => ?_
      by_cases hk2 : (nd ns y).kind = 2
      · rw [if_pos hk2]
        by_cases ey : y = 1
        · subst ey; rw [if_pos rfl, hc1]; omega
        · have hy2 : 2 ≤ y := by
            by_cases y0 : y = 0
            · subst y0; rw [h0] at hk2; exact absurd hk2 (by decide)
            · omega
          have a1 := ho y hk2
          have a2 := (hl y hy2 hy (by rw [hk2]; decide)).1
          rw [show T.count y = 1 by omega, if_neg ey]; omega
      · rw [if_neg hk2, if_neg (fun e => hk2 (by rw [e]; exact hk))]; omega
    rw [sumTo_add, sumTo_one ns.length 1 (fun y => (tg ns y).count x) h1] at e2
    omega
  refine ⟨fun d hd hk2 => ?_, fun x a b c => ?_, fun x a b c => ?_, fun x a b c d => ?_⟩
  · by_cases e1 : d = 1
    · subst e1; exact hg.1
    · by_cases e0 : d = 0
      · subst e0; rw [h0] at hk2; exact absurd hk2 (by decide)
      · have hm : d ∈ T := List.count_pos_iff.1 (by have := (hl d (by omega) hd (by rw [hk2]; decide)).1; omega)
        rcases hg.2 d hm hk2 with h | h
        · exact h.elim
        · exact h
  · rw [← ht]; exact (hl x a b c).1
  · rw [← ht]
    have a1 := ho x c
    have a2 := (hl x a b (by rw [c]; decide)).1
    omega
  · rw [← ht]; exact (hl x a b c).2 d
theorem checkP_parts {now : Int} {ns : List Nd} (h : checkP now ns = true) : 2 ≤ ns.length ∧ ns.length ≤ 513 ∧ (nd ns 0).kind = 0 ∧ (nd ns 1).kind = 2 ∧ (nd ns 1).parent = 1 ∧ (∀ i, i < ns.length → kindP (nd ns i) = true) ∧ hangsP ns = true ∧ limitsP ns = true ∧ timeP now = true := by
  unfold checkP rootP nodesP at h
  simp only [Bool.and_eq_true, decide_eq_true_eq] at h
  obtain ⟨⟨⟨⟨t, ⟨⟨⟨⟨⟨a, b⟩, c⟩, d⟩, e⟩, f⟩⟩, g⟩, i⟩, j⟩ := h
  exact ⟨a, b, c, d, e, fun k hk => allTo_true.1 i k hk, j, g, t⟩
theorem hung_check {now : Int} {ns : List Nd} (h : checkP now ns = true) : Hung ns := by
  obtain ⟨a, _, c, d, _, _, g, _⟩ := checkP_parts h
  exact hung_of a c d g
end Go.Proofs.YtidhceebafmlkaaGreatDoor.Tr

namespace Go.Proofs.YtidhceebafmlkaaGreatDoor.Pt
open Go.RowKit Cu Tr Pm
abbrev dot : ByteArray := ⟨#[46]⟩
abbrev dots : ByteArray := ⟨#[46, 46]⟩
structure Pl where
  dir : Int
  name : ByteArray
  node : Int
  dirs : Bool
abbrev pz : Pl := ⟨0, ⟨#[]⟩, 0, false⟩
abbrev pv (p : Pl) : Array Value := #[.int .i64 p.dir, .string p.name, .int .i64 p.node, .bool p.dirs]
def bad (k : Int) : Pl × Int := (pz, k)
def goP (ns : List Nd) (e : Ev) (follow : Bool) (next : Nat → List ByteArray → Bool → Pl × Int) (dirs : Bool) : Nat → List ByteArray → Pl × Int
  | d, [] => (⟨d, ⟨#[]⟩, d, dirs⟩, 0)
  | d, s :: l =>
    if mayP (nd ns d) e 1 = false then bad 10
    else if 64 < s.size then bad 13
    else if s = dot then goP ns e follow next dirs d l
    else if s = dots then goP ns e follow next dirs (nd ns d).parent.toNat l
    else if findP (nd ns d).list s = 0 then (if l = [] then (⟨d, s, 0, dirs⟩, 0) else bad 6)
    else if (nd ns (findP (nd ns d).list s).toNat).kind = 3 ∧ (l ≠ [] ∨ follow = true ∨ dirs = true) then
      next (if begins (nd ns (findP (nd ns d).list s).toNat).target then 1 else d) (partsP (nd ns (findP (nd ns d).list s).toNat).target ++ l) (dirs || (l.isEmpty && ends (nd ns (findP (nd ns d).list s).toNat).target))
    else if (nd ns (findP (nd ns d).list s).toNat).kind = 1 ∧ (l ≠ [] ∨ dirs = true) then bad 9
    else if l = [] then (⟨d, s, findP (nd ns d).list s, dirs⟩, 0)
    else goP ns e follow next dirs (findP (nd ns d).list s).toNat l
def leadP (ns : List Nd) (e : Ev) (follow : Bool) : Nat → Nat → List ByteArray → Bool → Pl × Int
  | 0, _, _, _ => bad 12
  | h + 1, d, l, dirs => goP ns e follow (leadP ns e follow h) dirs d l
def badP (s : ByteArray) : Bool := decide (1024 < s.size) || hasB s 0
def inPath (ns : List Nd) (e : Ev) (s : ByteArray) (follow : Bool) : Pl × Int :=
  if s.size = 0 then bad 6
  else if badP s then bad 13
  else leadP ns e follow 17 (if begins s then 1 else e.dir.toNat) (partsP s) (ends s)
def takeP (ns : List Nd) (e : Ev) (d : Nat) (s : ByteArray) : Int × Int :=
  if mayP (nd ns d) e 1 = false then (0, 10)
  else if 64 < s.size then (0, 13)
  else if s = dot then ((d : Int), 0)
  else if s = dots then ((nd ns d).parent, 0)
  else (findP (nd ns d).list s, 0)
def Dr (ns : List Nd) (d : Nat) : Prop := 0 < d ∧ d < ns.length ∧ (nd ns d).kind = 2
theorem dr_root {now : Int} {ns : List Nd} (h : checkP now ns = true) : Dr ns 1 := by
  obtain ⟨a, _, _, d, _⟩ := checkP_parts h
  exact ⟨by omega, by omega, d⟩
theorem up_dr {now : Int} {ns : List Nd} (h : checkP now ns = true) {s d : Nat} (hu : Up ns s d) : Dr ns d := by
  cases hu with
  | root => exact dr_root h
  | step a b c _ _ => exact ⟨by omega, b, c⟩
theorem dr_up {now : Int} {ns : List Nd} (h : checkP now ns = true) {d : Nat} (hd : Dr ns d) : ∃ p : Nat, (nd ns d).parent = (p : Int) ∧ Dr ns p := by
  obtain ⟨_, s, _, hu⟩ := (hung_check h).good d hd.2.1 hd.2.2
  cases hu with
  | root => exact ⟨1, (checkP_parts h).2.2.2.2.1, dr_root h⟩
  | step a b c e f => exact ⟨_, e, up_dr h f⟩
theorem find_mem {es : List En} {t : ByteArray} : findP es t = 0 ∨ ∃ e ∈ es, findP es t = e.node := by
  unfold findP
  cases h : es.find? (fun e => decide (e.name = t)) with
  | none => exact .inl rfl
  | some e => exact .inr ⟨e, List.mem_of_find?_eq_some h, rfl⟩
theorem kind_cases {n : Nd} (h : kindP n = true) : n.kind = 0 ∨ n.kind = 1 ∨ n.kind = 2 ∨ (n.kind = 3 ∧ targetP n.target = true) := by
  unfold kindP at h
  split at h
  · exact .inl ‹_›
  split at h
  · exact .inr (.inl ‹_›)
  split at h
  · exact .inr (.inr (.inl ‹_›))
  split at h
  · unfold linkP at h
    simp only [Bool.and_eq_true] at h
    exact .inr (.inr (.inr ⟨‹_›, h.1.1.2⟩))
  · cases h
theorem dr_find {now : Int} {ns : List Nd} (h : checkP now ns = true) {d : Nat} (hd : Dr ns d) (s : ByteArray) :
    findP (nd ns d).list s = 0 ∨ ∃ m : Nat, findP (nd ns d).list s = (m : Int) ∧ 1 < m ∧ m < ns.length ∧ ((nd ns m).kind = 1 ∨ (nd ns m).kind = 2 ∨ ((nd ns m).kind = 3 ∧ targetP (nd ns m).target = true)) := by
  rcases find_mem (es := (nd ns d).list) (t := s) with h0 | ⟨e, he, h1⟩
  · exact .inl h0
  · obtain ⟨a, b, c, _⟩ := ((hung_check h).good d hd.2.1 hd.2.2).1.1 e he
    refine .inr ⟨e.node.toNat, by omega, by omega, by omega, ?_⟩
    rcases kind_cases ((checkP_parts h).2.2.2.2.2.1 e.node.toNat (by omega)) with q | q | q | q
    · exact absurd q c
    · exact .inl q
    · exact .inr (.inl q)
    · exact .inr (.inr q)
theorem dr_list {now : Int} {ns : List Nd} (h : checkP now ns = true) {d : Nat} (hd : Dr ns d) : listP (nd ns d).list = true := by
  have hi : isDirP now ns (d : Int) = true := by
    unfold isDirP nodeP
    rw [h, Int.toNat_natCast, hd.2.2]
    have := hd.1; have := hd.2.1
    simp; omega
  exact (dir_list hi).2.2.2.2
theorem target_le {s : ByteArray} (h : targetP s = true) : 1 ≤ s.size ∧ s.size ≤ 1024 := by
  unfold targetP at h
  simp only [Bool.and_eq_true, decide_eq_true_eq] at h
  exact h.1
end Go.Proofs.YtidhceebafmlkaaGreatDoor.Pt

namespace Go.Proofs
open Go.Shelf
def Tryz.lays137_ren : Go.Shelf.Ren := ⟨fun | 137 => 182 | 217 => 235 | 266 => 263 | n => n, fun | 9 => 9 | 5 => 5 | 3 => 3 | n => n, fun | n => n⟩
theorem Tryz.lays137 : Go.Proofs.Lays.n137 Tryz.prog Tryz.lays137_ren := {
  mixed := by kernel_rfl
  f137 := Tryz.func182.trans (congrArg some (by kernel_rfl))
  f217 := Tryz.func235.trans (congrArg some (by kernel_rfl))
  f266 := Tryz.func263.trans (congrArg some (by kernel_rfl))
  t3 := Tryz.underlying3
  a3 := Tryz.isAgg3
  z3 := Tryz.sizeOf3
  v3 := Tryz.zeroValue3
  t5 := Tryz.underlying5
  a5 := Tryz.isAgg5
  z5 := Tryz.sizeOf5
  v5 := Tryz.zeroValue5
  t9 := Tryz.underlying9
  a9 := Tryz.isAgg9
  z9 := Tryz.sizeOf9
  v9 := Tryz.zeroValue9 }
open Go.RowKit in
theorem Tryz.strings_IndexByte (s : ByteArray) (c : Int) (w : World) :
    Calls Tryz.prog 182 #[.string s, .int .u8 c] w fun e w' => e = .returned (.int .i64 (Lib.indexByte s.data.toList c.toNat.toUInt8)) ∧ w' = w := Any.strings_IndexByte Tryz.lays137 s c w
def Tryz.lays229_ren : Go.Shelf.Ren := ⟨fun | 229 => 266 | n => n, fun | 9 => 9 | 40 => 260 | 31 => 60 | 152 => 263 | 3 => 3 | 0 => 0 | 4 => 4 | 21 => 21 | 154 => 265 | n => n, fun | n => n⟩
theorem Tryz.lays229 : Go.Proofs.Lays.n229 Tryz.prog Tryz.lays229_ren := {
  mixed := by kernel_rfl
  f229 := Tryz.func266.trans (congrArg some (by kernel_rfl))
  t0 := Tryz.underlying0
  a0 := Tryz.isAgg0
  z0 := Tryz.sizeOf0
  v0 := Tryz.zeroValue0
  t3 := Tryz.underlying3
  a3 := Tryz.isAgg3
  z3 := Tryz.sizeOf3
  v3 := Tryz.zeroValue3
  t4 := Tryz.underlying4
  a4 := Tryz.isAgg4
  z4 := Tryz.sizeOf4
  v4 := Tryz.zeroValue4
  t9 := Tryz.underlying9
  a9 := Tryz.isAgg9
  z9 := Tryz.sizeOf9
  v9 := Tryz.zeroValue9
  t21 := Tryz.underlying21
  a21 := Tryz.isAgg21
  z21 := Tryz.sizeOf21
  v21 := Tryz.zeroValue21
  t31 := Tryz.underlying60
  a31 := Tryz.isAgg60
  z31 := Tryz.sizeOf60
  v31 := Tryz.zeroValue60
  t40 := Tryz.underlying260
  a40 := Tryz.isAgg260
  z40 := Tryz.sizeOf260
  v40 := Tryz.zeroValue260
  t152 := Tryz.underlying263
  a152 := Tryz.isAgg263
  z152 := Tryz.sizeOf263
  v152 := Tryz.zeroValue263
  t154 := Tryz.underlying265
  a154 := Tryz.isAgg265
  z154 := Tryz.sizeOf265
  v154 := Tryz.zeroValue265 }
open Go.RowKit Go.Lib in
theorem Tryz.strings_FieldsFunc_runes (g : Nat) (lb : Array Value) (eg : ∀ args w, (callFunc g args).run Tryz.prog w = .ok (.enter g args) w) (p : Nat → Bool) (s : ByteArray) (w : World) (hs : s.size ≤ 4294967296) (hp : PredAtRunes Tryz.prog g lb p w) :
    Calls Tryz.prog 266 #[.string s, .func (.func g) #[] lb] w fun e w' => ∃ A, e = .returned (.slice (some ⟨A, 0, none⟩) (Lib.goFieldsP p s).length (Lib.goFieldsP p s).length) ∧ w.heap.size ≤ A ∧
      w'.ownsRow w.heap.size 9 1 (.slice (some ⟨A, 0, none⟩) (Lib.goFieldsP p s).length (Lib.goFieldsP p s).length) (Lib.goFieldsP p s).length ((Lib.goFieldsP p s).map Value.string) ∧ Below w.heap.size w w' := Any.strings_FieldsFunc_runes Tryz.lays229 g lb eg p s w hs hp (by kernel_rfl) (by kernel_rfl)
end Go.Proofs

namespace Go.Proofs.YtidhceebafmlkaaGreatDoor.Pt
open Go.RowKit Cu
abbrev sl : ByteArray := ⟨#[47]⟩
theorem ret_b {a b : Bool} (h : a = b) : Ending.returned (.bool a) = .returned (.bool b) := by rw [h]
theorem beq_one (l : Bs) (x : Option UInt8) (h : (l = [47]) ↔ x = some 47) : (l == [47]) = decide (x = some 47) := by
  rw [Bool.eq_iff_iff]; simpa using h
theorem begins_of (s : ByteArray) (h : ¬ s.size = 0) : ((s.extract 0 1).toList == [47]) = begins s := by
  unfold begins
  rw [ByteArray.toList_eq, ext_tx]
  show (bs (tx _) == [47]) = _
  rw [bs_tx]
  refine beq_one _ _ ?_
  cases e : bs s with
  | nil => exact absurd (show (bs s).length = 0 by rw [e]; rfl) h
  | cons x t => simp
theorem ends_of (s : ByteArray) (h : ¬ s.size = 0) : ((s.extract (s.size - 1) s.size).toList == [47]) = ends s := by
  unfold ends
  rw [ByteArray.toList_eq, ext_tx]
  show (bs (tx _) == [47]) = _
  rw [bs_tx]
  refine beq_one _ _ ?_
  have hl : (bs s).length = s.size := rfl
  rw [List.getLast?_eq_getElem?, hl, List.drop_eq_getElem_cons (show s.size - 1 < (bs s).length by omega), List.getElem?_eq_getElem (show s.size - 1 < (bs s).length by omega), show s.size - (s.size - 1) = 0 + 1 by omega, List.take_succ_cons]
  simp
theorem none_of {s : ByteArray} (h : s.size = 0) : bs s = [] := List.eq_nil_of_length_eq_zero h
set_option maxRecDepth 100000 in
set_option maxHeartbeats 400000 in
theorem hasPre_any (s : ByteArray) (w : World) : Calls Tryz.prog 264 #[.string s, .string sl] w fun e w' => e = .returned (.bool (begins s)) ∧ w' = w := by
  by_cases h0 : s.size = 0
  · have hv : begins s = false := by simp [begins, none_of h0]
    rw [hv]
    go_enter Tryz.func264, Tryz.ntmps264
    go_wp2_with fail
    go_ret
    exact ⟨rfl, rfl⟩
  · go_enter Tryz.func264, Tryz.ntmps264
    go_wp2_with fail
    go_ret
    exact ⟨ret_b (begins_of s h0), rfl⟩
set_option maxRecDepth 100000 in
set_option maxHeartbeats 400000 in
theorem hasSuf_any (s : ByteArray) (w : World) (hs : s.size ≤ 1000000000) : Calls Tryz.prog 265 #[.string s, .string sl] w fun e w' => e = .returned (.bool (ends s)) ∧ w' = w := by
  by_cases h0 : s.size = 0
  · have hv : ends s = false := by simp [ends, none_of h0]
    rw [hv]
    go_enter Tryz.func265, Tryz.ntmps265
    go_wp2_with fail
    go_ret
    exact ⟨rfl, rfl⟩
  · have h1 : 1 ≤ (s.size : Int) := by omega
    have HE := hide (ends_of s h0)
    obtain ⟨k, hk⟩ : ∃ k, k = s.size - 1 := ⟨_, rfl⟩
    rw [← hk] at HE
    have hk1 : (s.size : Int) - 1 = (k : Int) := by omega
    clear hk
    go_enter Tryz.func265, Tryz.ntmps265
    go_wp2_with fail
    go_ret
    exact ⟨ret_b (uh HE), rfl⟩
set_option maxRecDepth 100000 in
set_option maxHeartbeats 400000 in
theorem hasPrefix_any (s : ByteArray) (w : World) : Calls Tryz.prog 236 #[.string s, .string sl] w fun e w' => e = .returned (.bool (begins s)) ∧ w' = w := by
  go_enter Tryz.func236, Tryz.ntmps236
  go_wp2_with (go_at_call 264; refine (hasPre_any _ _).mono ?_; rintro e w' ⟨rfl, rfl⟩)
  go_ret
  exact ⟨rfl, rfl⟩
set_option maxRecDepth 100000 in
set_option maxHeartbeats 400000 in
theorem hasSuffix_any (s : ByteArray) (w : World) (hs : s.size ≤ 1000000000) : Calls Tryz.prog 237 #[.string s, .string sl] w fun e w' => e = .returned (.bool (ends s)) ∧ w' = w := by
  go_enter Tryz.func237, Tryz.ntmps237
  go_wp2_with (go_at_call 265; refine (hasSuf_any _ _ hs).mono ?_; rintro e w' ⟨rfl, rfl⟩)
  go_ret
  exact ⟨rfl, rfl⟩
theorem s_beq (s : ByteArray) : (s.toList == []) = decide (bs s = []) := by
  rw [ByteArray.toList_eq, Bool.eq_iff_iff]; simp [bs]
end Go.Proofs.YtidhceebafmlkaaGreatDoor.Pt
