import Derived.Test.YtpcklgbcabpilaaGreatDoorMoPlain
import Derived.Test.YtpcklgbcabpilaaGreatDoorTrSound
import Derived.Test.YtpcklgbcabpilaaGreatDoorCaSearch
import Derived.Shelf.Small.Strs
import Derived.Shelf.Strconv.Itoa0
import Derived.Shelf.Strings.Search1
import Derived.Shelf.Strings.FieldsFuncAny
import Derived.Test.YtpcklgbcabpilaaGreatDoorProg
import Derived.Test.YtpcklgbcabpilaaGreatDoorTrShelf
/- Where a path leads, in plain words. -/
namespace Go.Proofs.YtpcklgbcabpilaaGreatDoor.Pt
open Go.RowKit Go.Proofs.YtpcklgbcabpilaaGreatDoor.Cu Go.Proofs.YtpcklgbcabpilaaGreatDoor.Tr Go.Proofs.YtpcklgbcabpilaaGreatDoor.Pm

abbrev dot : ByteArray := ⟨#[46]⟩
abbrev dots : ByteArray := ⟨#[46, 46]⟩
/-- where a path leads -/
structure Pl where
  dir : Int
  name : ByteArray
  node : Int
  dirs : Bool
abbrev pz : Pl := ⟨0, ⟨#[]⟩, 0, false⟩
abbrev pv (p : Pl) : Array Value := #[.int .i64 p.dir, .string p.name, .int .i64 p.node, .bool p.dirs]
def bad (k : Int) : Pl × Int := (pz, k)
/-- part by part; next: how it goes on behind a link -/
def goP (ns : List Nd) (e : Ev) (follow : Bool) (next : Nat → List ByteArray → Bool → Pl × Int) (dirs : Bool) : Nat → List ByteArray → Pl × Int
  | d, [] => (⟨d, ⟨#[]⟩, d, dirs⟩, 0)
  | d, s :: l =>
    if mayP (nd ns d) e 1 = false then bad 10
    else if 64 < s.size then bad 13
    else if s = dot then goP ns e follow next dirs d l
    else if s = dots then goP ns e follow next dirs (nd ns d).parent.toNat l
    else if findP (nd ns d).list s = 0 then (if l = [] then (⟨d, s, 0, dirs⟩, 0) else bad 6)
    else if (nd ns (findP (nd ns d).list s).toNat).kind = 3 ∧ (l ≠ [] ∨ follow = true ∨ dirs = true) then
      next (if begins (nd ns (findP (nd ns d).list s).toNat).target then 1 else d) (partsP (nd ns (findP (nd ns d).list s).toNat).target ++ l) (dirs || (l.isEmpty && ends (nd ns (findP (nd ns d).list s).toNat).target))
    else if (nd ns (findP (nd ns d).list s).toNat).kind = 1 ∧ (l ≠ [] ∨ dirs = true) then bad 9
    else if l = [] then (⟨d, s, findP (nd ns d).list s, dirs⟩, 0)
    else goP ns e follow next dirs (findP (nd ns d).list s).toNat l
/-- with so many ways that may be begun -/
def leadP (ns : List Nd) (e : Ev) (follow : Bool) : Nat → Nat → List ByteArray → Bool → Pl × Int
  | 0, _, _, _ => bad 12
  | h + 1, d, l, dirs => goP ns e follow (leadP ns e follow h) dirs d l
def badP (s : ByteArray) : Bool := decide (1024 < s.size) || hasB s 0
/-- in a tree that may be, for somebody who may be -/
def inPath (ns : List Nd) (e : Ev) (s : ByteArray) (follow : Bool) : Pl × Int :=
  if s.size = 0 then bad 6
  else if badP s then bad 13
  else leadP ns e follow 17 (if begins s then 1 else e.dir.toNat) (partsP s) (ends s)

/-- the node that a part is at a directory, or why there is none -/
def takeP (ns : List Nd) (e : Ev) (d : Nat) (s : ByteArray) : Int × Int :=
  if mayP (nd ns d) e 1 = false then (0, 10)
  else if 64 < s.size then (0, 13)
  else if s = dot then ((d : Int), 0)
  else if s = dots then ((nd ns d).parent, 0)
  else (findP (nd ns d).list s, 0)

/-! ### what is known of a tree that may be -/
def Dr (ns : List Nd) (d : Nat) : Prop := 0 < d ∧ d < ns.length ∧ (nd ns d).kind = 2
theorem dr_root {now : Int} {ns : List Nd} (h : checkP now ns = true) : Dr ns 1 := by
  obtain ⟨a, _, _, d, _⟩ := checkP_parts h
  exact ⟨by omega, by omega, d⟩
theorem up_dr {now : Int} {ns : List Nd} (h : checkP now ns = true) {s d : Nat} (hu : Up ns s d) : Dr ns d := by
  cases hu with
  | root => exact dr_root h
  | step a b c _ _ => exact ⟨by omega, b, c⟩
theorem dr_up {now : Int} {ns : List Nd} (h : checkP now ns = true) {d : Nat} (hd : Dr ns d) : ∃ p : Nat, (nd ns d).parent = (p : Int) ∧ Dr ns p := by
  obtain ⟨_, s, _, hu⟩ := (hung_check h).good d hd.2.1 hd.2.2
  cases hu with
  | root => exact ⟨1, (checkP_parts h).2.2.2.2.1, dr_root h⟩
  | step a b c e f => exact ⟨_, e, up_dr h f⟩
theorem find_mem {es : List En} {t : ByteArray} : findP es t = 0 ∨ ∃ e ∈ es, findP es t = e.node := by
  unfold findP
  cases h : es.find? (fun e => decide (e.name = t)) with
  | none => exact .inl rfl
  | some e => exact .inr ⟨e, List.mem_of_find?_eq_some h, rfl⟩
theorem kind_cases {n : Nd} (h : kindP n = true) : n.kind = 0 ∨ n.kind = 1 ∨ n.kind = 2 ∨ (n.kind = 3 ∧ targetP n.target = true) := by
  unfold kindP at h
  split at h
  · exact .inl ‹_›
  split at h
  · exact .inr (.inl ‹_›)
  split at h
  · exact .inr (.inr (.inl ‹_›))
  split at h
  · unfold linkP at h
    simp only [Bool.and_eq_true] at h
    exact .inr (.inr (.inr ⟨‹_›, h.1.1.2⟩))
  · cases h
/-- a name of a directory: none, or a node that is a file, a directory, or a link -/
theorem dr_find {now : Int} {ns : List Nd} (h : checkP now ns = true) {d : Nat} (hd : Dr ns d) (s : ByteArray) :
    findP (nd ns d).list s = 0 ∨ ∃ m : Nat, findP (nd ns d).list s = (m : Int) ∧ 1 < m ∧ m < ns.length ∧ ((nd ns m).kind = 1 ∨ (nd ns m).kind = 2 ∨ ((nd ns m).kind = 3 ∧ targetP (nd ns m).target = true)) := by
  rcases find_mem (es := (nd ns d).list) (t := s) with h0 | ⟨e, he, h1⟩
  · exact .inl h0
  · obtain ⟨a, b, c, _⟩ := ((hung_check h).good d hd.2.1 hd.2.2).1.1 e he
    refine .inr ⟨e.node.toNat, by omega, by omega, by omega, ?_⟩
    rcases kind_cases ((checkP_parts h).2.2.2.2.2.1 e.node.toNat (by omega)) with q | q | q | q
    · exact absurd q c
    · exact .inl q
    · exact .inr (.inl q)
    · exact .inr (.inr q)
theorem dr_list {now : Int} {ns : List Nd} (h : checkP now ns = true) {d : Nat} (hd : Dr ns d) : listP (nd ns d).list = true := by
  have hi : isDirP now ns (d : Int) = true := by
    unfold isDirP nodeP
    rw [h, Int.toNat_natCast, hd.2.2]
    have := hd.1; have := hd.2.1
    simp; omega
  exact (dir_list hi).2.2.2.2
theorem target_le {s : ByteArray} (h : targetP s = true) : 1 ≤ s.size ∧ s.size ≤ 1024 := by
  unfold targetP at h
  simp only [Bool.and_eq_true, decide_eq_true_eq] at h
  exact h.1
end Go.Proofs.YtpcklgbcabpilaaGreatDoor.Pt

/- The contracts of the library functions that are called, laid over this translation. -/
namespace Go.Proofs
open Go.Shelf
def Tryz.lays137_ren : Go.Shelf.Ren := ⟨fun | 137 => 182 | 217 => 235 | 266 => 263 | n => n, fun | 9 => 9 | 5 => 5 | 3 => 3 | n => n, fun | n => n⟩
theorem Tryz.lays137 : Go.Proofs.Lays.n137 Tryz.prog Tryz.lays137_ren := {
  mixed := by kernel_rfl
  f137 := Tryz.func182.trans (congrArg some (by kernel_rfl))
  f217 := Tryz.func235.trans (congrArg some (by kernel_rfl))
  f266 := Tryz.func263.trans (congrArg some (by kernel_rfl))
  t3 := Tryz.underlying3
  a3 := Tryz.isAgg3
  z3 := Tryz.sizeOf3
  v3 := Tryz.zeroValue3
  t5 := Tryz.underlying5
  a5 := Tryz.isAgg5
  z5 := Tryz.sizeOf5
  v5 := Tryz.zeroValue5
  t9 := Tryz.underlying9
  a9 := Tryz.isAgg9
  z9 := Tryz.sizeOf9
  v9 := Tryz.zeroValue9 }
open Go.RowKit in
theorem Tryz.strings_IndexByte (s : ByteArray) (c : Int) (w : World) :
    Calls Tryz.prog 182 #[.string s, .int .u8 c] w fun e w' => e = .returned (.int .i64 (Lib.indexByte s.data.toList c.toNat.toUInt8)) ∧ w' = w := Any.strings_IndexByte Tryz.lays137 s c w
def Tryz.lays229_ren : Go.Shelf.Ren := ⟨fun | 229 => 266 | n => n, fun | 9 => 9 | 40 => 260 | 31 => 60 | 152 => 263 | 3 => 3 | 0 => 0 | 4 => 4 | 21 => 21 | 154 => 265 | n => n, fun | n => n⟩
theorem Tryz.lays229 : Go.Proofs.Lays.n229 Tryz.prog Tryz.lays229_ren := {
  mixed := by kernel_rfl
  f229 := Tryz.func266.trans (congrArg some (by kernel_rfl))
  t0 := Tryz.underlying0
  a0 := Tryz.isAgg0
  z0 := Tryz.sizeOf0
  v0 := Tryz.zeroValue0
  t3 := Tryz.underlying3
  a3 := Tryz.isAgg3
  z3 := Tryz.sizeOf3
  v3 := Tryz.zeroValue3
  t4 := Tryz.underlying4
  a4 := Tryz.isAgg4
  z4 := Tryz.sizeOf4
  v4 := Tryz.zeroValue4
  t9 := Tryz.underlying9
  a9 := Tryz.isAgg9
  z9 := Tryz.sizeOf9
  v9 := Tryz.zeroValue9
  t21 := Tryz.underlying21
  a21 := Tryz.isAgg21
  z21 := Tryz.sizeOf21
  v21 := Tryz.zeroValue21
  t31 := Tryz.underlying60
  a31 := Tryz.isAgg60
  z31 := Tryz.sizeOf60
  v31 := Tryz.zeroValue60
  t40 := Tryz.underlying260
  a40 := Tryz.isAgg260
  z40 := Tryz.sizeOf260
  v40 := Tryz.zeroValue260
  t152 := Tryz.underlying263
  a152 := Tryz.isAgg263
  z152 := Tryz.sizeOf263
  v152 := Tryz.zeroValue263
  t154 := Tryz.underlying265
  a154 := Tryz.isAgg265
  z154 := Tryz.sizeOf265
  v154 := Tryz.zeroValue265 }
open Go.RowKit Go.Lib in
theorem Tryz.strings_FieldsFunc_runes (g : Nat) (lb : Array Value) (eg : ∀ args w, (callFunc g args).run Tryz.prog w = .ok (.enter g args) w) (p : Nat → Bool) (s : ByteArray) (w : World) (hs : s.size ≤ 4294967296) (hp : PredAtRunes Tryz.prog g lb p w) :
    Calls Tryz.prog 266 #[.string s, .func (.func g) #[] lb] w fun e w' => ∃ A, e = .returned (.slice (some ⟨A, 0, none⟩) (Lib.goFieldsP p s).length (Lib.goFieldsP p s).length) ∧ w.heap.size ≤ A ∧
      w'.ownsRow w.heap.size 9 1 (.slice (some ⟨A, 0, none⟩) (Lib.goFieldsP p s).length (Lib.goFieldsP p s).length) (Lib.goFieldsP p s).length ((Lib.goFieldsP p s).map Value.string) ∧ Below w.heap.size w w' := Any.strings_FieldsFunc_runes Tryz.lays229 g lb eg p s w hs hp (by kernel_rfl) (by kernel_rfl)
end Go.Proofs

/- Texts of paths: what the package's own small functions answer. -/
namespace Go.Proofs.YtpcklgbcabpilaaGreatDoor.Pt
open Go.RowKit Go.Proofs.YtpcklgbcabpilaaGreatDoor.Cu

abbrev sl : ByteArray := ⟨#[47]⟩
theorem ret_b {a b : Bool} (h : a = b) : Ending.returned (.bool a) = .returned (.bool b) := by rw [h]
theorem ret_i {a b : Int} (h : a = b) : Ending.returned (.int .i64 a) = .returned (.int .i64 b) := by rw [h]
theorem ret_s {a b : ByteArray} (h : a = b) : Ending.returned (.string a) = .returned (.string b) := by rw [h]
theorem beq_one (l : Bs) (x : Option UInt8) (h : (l = [47]) ↔ x = some 47) : (l == [47]) = decide (x = some 47) := by
  rw [Bool.eq_iff_iff]; simpa using h
theorem begins_of (s : ByteArray) (h : ¬ s.size = 0) : ((s.extract 0 1).toList == [47]) = begins s := by
  unfold begins
  rw [ByteArray.toList_eq, ext_tx]
  show (bs (tx _) == [47]) = _
  rw [bs_tx]
  refine beq_one _ _ ?_
  cases e : bs s with
  | nil => exact absurd (show (bs s).length = 0 by rw [e]; rfl) h
  | cons x t => simp
theorem ends_of (s : ByteArray) (h : ¬ s.size = 0) : ((s.extract (s.size - 1) s.size).toList == [47]) = ends s := by
  unfold ends
  rw [ByteArray.toList_eq, ext_tx]
  show (bs (tx _) == [47]) = _
  rw [bs_tx]
  refine beq_one _ _ ?_
  have hl : (bs s).length = s.size := rfl
  rw [List.getLast?_eq_getElem?, hl, List.drop_eq_getElem_cons (show s.size - 1 < (bs s).length by omega), List.getElem?_eq_getElem (show s.size - 1 < (bs s).length by omega), show s.size - (s.size - 1) = 0 + 1 by omega, List.take_succ_cons]
  simp
theorem none_of {s : ByteArray} (h : s.size = 0) : bs s = [] := List.eq_nil_of_length_eq_zero h
set_option maxRecDepth 100000 in
set_option maxHeartbeats 400000 in
theorem hasPre_any (s : ByteArray) (w : World) : Calls Tryz.prog 264 #[.string s, .string sl] w fun e w' => e = .returned (.bool (begins s)) ∧ w' = w := by
  by_cases h0 : s.size = 0
  · have hv : begins s = false := by simp [begins, none_of h0]
    rw [hv]
    go_enter Tryz.func264, Tryz.ntmps264
    go_wp2_with fail
    go_ret
    exact ⟨rfl, rfl⟩
  · go_enter Tryz.func264, Tryz.ntmps264
    go_wp2_with fail
    go_ret
    exact ⟨ret_b (begins_of s h0), rfl⟩
set_option maxRecDepth 100000 in
set_option maxHeartbeats 400000 in
theorem hasSuf_any (s : ByteArray) (w : World) (hs : s.size ≤ 1000000000) : Calls Tryz.prog 265 #[.string s, .string sl] w fun e w' => e = .returned (.bool (ends s)) ∧ w' = w := by
  by_cases h0 : s.size = 0
  · have hv : ends s = false := by simp [ends, none_of h0]
    rw [hv]
    go_enter Tryz.func265, Tryz.ntmps265
    go_wp2_with fail
    go_ret
    exact ⟨rfl, rfl⟩
  · have h1 : 1 ≤ (s.size : Int) := by omega
    have HE := hide (ends_of s h0)
    obtain ⟨k, hk⟩ : ∃ k, k = s.size - 1 := ⟨_, rfl⟩
    rw [← hk] at HE
    have hk1 : (s.size : Int) - 1 = (k : Int) := by omega
    clear hk
    go_enter Tryz.func265, Tryz.ntmps265
    go_wp2_with fail
    go_ret
    exact ⟨ret_b (unhide HE), rfl⟩
set_option maxRecDepth 100000 in
set_option maxHeartbeats 400000 in
theorem hasPrefix_any (s : ByteArray) (w : World) : Calls Tryz.prog 236 #[.string s, .string sl] w fun e w' => e = .returned (.bool (begins s)) ∧ w' = w := by
  go_enter Tryz.func236, Tryz.ntmps236
  go_wp2_with (go_at_call 264; refine (hasPre_any _ _).mono ?_; rintro e w' ⟨rfl, rfl⟩)
  go_ret
  exact ⟨rfl, rfl⟩
set_option maxRecDepth 100000 in
set_option maxHeartbeats 400000 in
theorem hasSuffix_any (s : ByteArray) (w : World) (hs : s.size ≤ 1000000000) : Calls Tryz.prog 237 #[.string s, .string sl] w fun e w' => e = .returned (.bool (ends s)) ∧ w' = w := by
  go_enter Tryz.func237, Tryz.ntmps237
  go_wp2_with (go_at_call 265; refine (hasSuf_any _ _ hs).mono ?_; rintro e w' ⟨rfl, rfl⟩)
  go_ret
  exact ⟨rfl, rfl⟩
theorem size_tx (c : Bs) : (tx c).size = c.length := by simp [tx, ByteArray.size]
theorem eq_none {c : Bs} : tx c = ⟨#[]⟩ ↔ c = [] := ⟨fun e => by have := congrArg bs e; rw [bs_tx] at this; exact this, fun e => by rw [e]; rfl⟩
theorem tx_beq (c : Bs) : ((tx c).toList == []) = decide (c = []) := by
  rw [ByteArray.toList_eq]
  show (bs (tx c) == []) = _
  rw [bs_tx, Bool.eq_iff_iff]; simp
theorem s_beq (s : ByteArray) : (s.toList == []) = decide (bs s = []) := by
  rw [ByteArray.toList_eq, Bool.eq_iff_iff]; simp [bs]
theorem bare_le (l : Bs) : (bareB l).length ≤ l.length := by
  unfold bareB
  rw [List.length_reverse]
  have := (List.dropWhile_sublist (· == 47) (l := l.reverse)).length_le
  rw [List.length_reverse] at this; exact this
theorem ext_drop (c : Bs) (k : Nat) : (tx c).extract k (tx c).size = tx (c.drop k) := by
  rw [ext_tx, bs_tx, size_tx, List.take_of_length_le (by simp)]
theorem ext_take (c : Bs) (k : Nat) : (tx c).extract 0 k = tx (c.take k) := by
  rw [ext_tx, bs_tx]; simp
theorem begins_head (s : ByteArray) : begins s = decide ((bs s).head? = some 47) := rfl
theorem join_one {s t : ByteArray} (h : bs s = [] ∨ (bs s).getLast? = some 47) : tx (joinB (bs s) (bs t)) = s ++ t := by
  unfold joinB
  rw [if_pos h]
  apply ba_ext
  rw [bs_tx]
  simp [bs]
theorem join_two {s t : ByteArray} (h : ¬ (bs s = [] ∨ (bs s).getLast? = some 47)) : tx (joinB (bs s) (bs t)) = s ++ sl ++ t := by
  unfold joinB
  rw [if_neg h]
  apply ba_ext
  rw [bs_tx]
  simp [bs]
end Go.Proofs.YtpcklgbcabpilaaGreatDoor.Pt
