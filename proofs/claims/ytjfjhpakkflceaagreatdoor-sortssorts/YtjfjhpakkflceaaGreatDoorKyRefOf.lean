import Derived.Test.YtjfjhpakkflceaaGreatDoorLnFields
import Derived.Test.YtjfjhpakkflceaaGreatDoorTexts
import Derived.Test.YtjfjhpakkflceaaGreatDoorKyRefPlain
import Derived.Test.YtjfjhpakkflceaaGreatDoorKyRow
import Derived.Deep.DeepCutAuto
import Derived.Deep.CutBlock
import Derived.Test.YtjfjhpakkflceaaGreatDoorKyComp
import Derived.Test.YtjfjhpakkflceaaGreatDoorKyIter
import Derived.Laws.IdiomStrings
import Derived.Lib.BufferRead
import Derived.Lib.Builder
import Derived.Test.YtjfjhpakkflceaaGreatDoorKyNum2
/- What the document's Split and Fields answer: the same. -/
namespace Go.Proofs.YtjfjhpakkflceaaGreatDoor.Ln
open Go.RowKit Go.Shelf

theorem one_new' (w : World) (x : Value) (e : TypeId) : ∀ j u, [x][j]? = some u → (w.alloc (.cells #[x] e)).cell? ((⟨w.heap.size, 0, none⟩ : Addr).add j) = some u := by
  intro j u hj
  match j, hj with
  | 0, hj => simp at hj; subst hj; simp [Addr.add]
theorem one_one' (s : ByteArray) : ∀ u ∈ [Value.string s], u.oneCell' = true := by
  intro u hu; simp at hu; subst hu; rfl
theorem row_sl {W : World} {base : Nat} {e : TypeId} {size : Nat} {v : Value} {k : Nat} {xs : List Value} (h : W.ownsRow base e size v k xs) : ∃ a n c, v = .slice a n c := by
  rcases h.2 with ⟨hv, _⟩ | ⟨g, cap, cur, hv, _⟩ <;> exact ⟨_, _, _, hv⟩
theorem last_true {pre : List (List UInt8 × Bool)} (h : ∀ q ∈ pre, q.2 = true) : lastB pre = !pre.isEmpty ∧ lastT pre = true := by
  rcases List.eq_nil_or_concat pre with rfl | ⟨q, x, rfl⟩
  · exact ⟨rfl, rfl⟩
  · have := h x (by simp)
    simp [lastB, lastT, this]

theorem bt_drop' (s : ByteArray) (i : Nat) : bt (s.data.toList.drop i) = s.extract i s.size := by
  rw [bt_extract, List.take_of_length_le (by rw [List.length_drop]; exact Nat.le_refl _)]
/-- what has come, b bytes being read, the part that is under way beginning at a -/
structure PInv (p : UInt8 → Bool) (l : List UInt8) (a b : Nat) (pre : List (List UInt8 × Bool)) : Prop where
  split : parts p l = pre ++ parts p (l.drop a)
  clean : ∀ c ∈ (l.drop a).take (b - a), p c = false
  ends : ∀ q ∈ pre, q.2 = true
theorem PInv.start (p : UInt8 → Bool) (l : List UInt8) : PInv p l 0 0 [] := ⟨by simp, by simp, by simp⟩
theorem PInv.hit {p : UInt8 → Bool} {l : List UInt8} {a b : Nat} {pre : List (List UInt8 × Bool)} (h : PInv p l a b pre) (hab : a ≤ b) (hb : b < l.length) (hp : p l[b] = true) : PInv p l (b + 1) (b + 1) (pre ++ [((l.drop a).take (b - a), true)]) := by
  refine ⟨parts_go h.split hab hb h.clean hp, by simp, ?_⟩
  intro q hq
  rcases List.mem_append.1 hq with hq | hq
  · exact h.ends q hq
  · simp at hq; subst hq; rfl
theorem PInv.miss {p : UInt8 → Bool} {l : List UInt8} {a b : Nat} {pre : List (List UInt8 × Bool)} (h : PInv p l a b pre) (hab : a ≤ b) (hb : b < l.length) (hp : p l[b] = false) : PInv p l a (b + 1) pre :=
  ⟨h.split, take_more hab hb h.clean hp, h.ends⟩
theorem PInv.last {p : UInt8 → Bool} {l : List UInt8} {a b : Nat} {pre : List (List UInt8 × Bool)} (h : PInv p l a b pre) (hb : b = l.length) (ha : a < l.length) : parts p l = pre ++ [(l.drop a, false)] := by
  rw [h.split, parts_end (l.drop a)]
  · intro c hc
    refine h.clean c ?_
    rwa [List.take_of_length_le (by rw [List.length_drop]; omega)]
  · intro e
    have := congrArg List.length e
    rw [List.length_drop, List.length_nil] at this
    omega
theorem PInv.whole {p : UInt8 → Bool} {l : List UInt8} {a b : Nat} {pre : List (List UInt8 × Bool)} (h : PInv p l a b pre) (ha : l.length ≤ a) : parts p l = pre := by
  rw [h.split, List.drop_eq_nil_of_le ha, parts_nil, List.append_nil]
theorem PInv.len {p : UInt8 → Bool} {l : List UInt8} {a b : Nat} {pre : List (List UInt8 × Bool)} (h : PInv p l a b pre) : pre.length ≤ l.length := by
  have h1 := parts_len p l
  rw [h.split, List.length_append] at h1
  omega

theorem blank_any (c : Nat) (w : World) :
    Calls Tryz.prog 139 #[.int .u8 c] w fun e w' => e = .returned (.bool (decide (c = 32) || decide (c = 9))) ∧ w' = w := by
  obtain ⟨r, hr⟩ : ∃ r, r = (decide (c = 32) || decide (c = 9)) := ⟨_, rfl⟩
  rw [← hr]
  rcases (show c = 32 ∨ c = 9 ∨ (c ≠ 32 ∧ c ≠ 9) by omega) with rfl | rfl | ⟨h, h'⟩
  · obtain rfl : r = true := by rw [hr]; rfl
    clear hr
    go_enter Tryz.func139, Tryz.ntmps139
    go_wp2
    go_ret
    exact ⟨rfl, rfl⟩
  · obtain rfl : r = true := by rw [hr]; rfl
    clear hr
    go_enter Tryz.func139, Tryz.ntmps139
    go_wp2
    go_ret
    exact ⟨rfl, rfl⟩
  · have a1 : ((c : Int) == 32) = false := by simp; omega
    have a2 : ((c : Int) == 9) = false := by simp; omega
    obtain rfl : r = false := by rw [hr]; simp [h, h']
    clear hr
    go_enter Tryz.func139, Tryz.ntmps139
    go_wp2
    go_ret
    exact ⟨rfl, rfl⟩

theorem runsOf_len' (l : List (List UInt8 × Bool)) : (runsOf l).length ≤ l.length := by
  unfold runsOf; exact Nat.le_trans (List.length_filter_le _ _) (by simp)
/-- what the loop of the document's Fields has told: b bytes read, or all and the end -/
def FInv (p : UInt8 → Bool) (l : List UInt8) (tell : List (List UInt8 × Bool) → List (List UInt8)) (all : List (List UInt8)) (a b : Nat) (F : List (List UInt8)) : Prop :=
  (b ≤ l.length ∧ a ≤ b ∧ ∃ pre, PInv p l a b pre ∧ F = tell pre) ∨ (b = l.length + 1 ∧ F = all)

set_option maxRecDepth 100000 in
set_option maxHeartbeats 1000000 in
theorem refFields_blank (s : ByteArray) (w : World) (hs : s.size ≤ 1073741824) :
    Calls Tryz.prog 137 #[.string s, .int .u8 0] w fun e w' => ∃ v, e = .returned v ∧ w'.ownsRow w.heap.size 9 1 v (fieldsL 0 s.data.toList).length (strs1 (fieldsL 0 s.data.toList)) ∧ Below w.heap.size w w' := by
  obtain ⟨i0, hi, hz0, hz1, hz2⟩ := info_parts Tryz.infoStr
  have HBL : Hid (∀ (c : UInt8) (W : World), Calls Tryz.prog 139 #[.int .u8 c.toNat] W fun e w' => e = .returned (.bool (isBlank c)) ∧ w' = W) := fun c W => blank_any c.toNat W
  go_enter Tryz.func137, Tryz.ntmps137
  go_wp2_with fail
  go_loopw [5, 6, 7] (fun v vf vi wr => ∃ (a b : Nat) (F : List (List UInt8)), vf = .int .i64 a ∧ vi = .int .i64 b ∧ b ≤ s.size + 1 ∧ a ≤ s.size + 1 ∧ F.length ≤ 1073741824 ∧ Hid (FInv isBlank s.data.toList runsOf (fieldsL 0 s.data.toList) a b F) ∧ Hid (wr.ownsRow w.heap.size 9 1 v F.length (strs1 F)) ∧ Hid (Below w.heap.size w wr)) (fun _ _ vi _ => s.size + 1 - (intOf vi).toNat)
  case atStart => exact ⟨0, 0, [], rfl, rfl, Nat.zero_le _, Nat.zero_le _, by simp, .inl ⟨Nat.zero_le _, Nat.le_refl _, [], PInv.start _ _, rfl⟩, World.ownsRow_nil _ _ _ _, Below.refl _ _⟩
  case round =>
    obtain ⟨a, b, F, rfl, rfl, hbs, has, hFl, hinv, hO, hB⟩ := hrel
    have hsz := (unhide hB).size
    have h2 : s.data.toList.length = s.size := rfl
    have hrl : (fieldsL 0 s.data.toList).length ≤ s.size := by
      show (runsOf (parts isBlank s.data.toList)).length ≤ s.size
      exact Nat.le_trans (runsOf_len' _) (parts_len _ _)
    by_cases hle : b ≤ s.size
    · have hle' : (b : Int) ≤ (s.size : Int) := by omega
      obtain ⟨_, hab, pre, hP, rfl⟩ : b ≤ s.data.toList.length ∧ a ≤ b ∧ ∃ pre, PInv isBlank s.data.toList a b pre ∧ F = runsOf pre := by
        rcases unhide hinv with h | h
        · exact h
        · exfalso; omega
      have HP := hide hP
      clear hP hinv
      by_cases hlt : b < s.size
      · have hlt' : (b : Int) < (s.size : Int) := by omega
        have hll : b < s.data.toList.length := hlt
        cases hbl : isBlank s[b]
        · have C1 : Hid (∀ W : World, Calls Tryz.prog 139 #[.int .u8 s[b].toNat] W fun e w' => e = .returned (.bool false) ∧ w' = W) := fun W => by rw [← hbl]; exact unhide HBL s[b] W
          have hnx : Hid (FInv isBlank s.data.toList runsOf (fieldsL 0 s.data.toList) a (b + 1) (runsOf pre)) := .inl ⟨by omega, by omega, pre, (unhide HP).miss hab hll hbl, rfl⟩
          clear hbl HP h2
          obtain ⟨a1, n1, c1, rfl⟩ := row_sl (unhide hO)
          go_wp2_with fail
          refine (unhide C1 _).mono ?_
          rintro e w' ⟨rfl, rfl⟩
          go_wp2_with fail
          go_roundw
          case rel => exact ⟨a, b + 1, runsOf pre, rfl, by go_num, by omega, by omega, hFl, hnx, hO, hB⟩
          case measure => simp [intOf] <;> omega
        · have C1 : Hid (∀ W : World, Calls Tryz.prog 139 #[.int .u8 s[b].toNat] W fun e w' => e = .returned (.bool true) ∧ w' = W) := fun W => by rw [← hbl]; exact unhide HBL s[b] W
          have hP2 := (unhide HP).hit hab hll hbl
          by_cases hg : a < b
          · have hg' : (a : Int) < (b : Int) := by omega
            have hne : (s.data.toList.drop a).take (b - a) ≠ [] := by
              intro e
              have := congrArg List.length e
              rw [List.length_take, List.length_drop, List.length_nil] at this
              omega
            have hr := runsOf_snoc pre _ true hne
            have hnx : Hid (FInv isBlank s.data.toList runsOf (fieldsL 0 s.data.toList) (b + 1) (b + 1) (runsOf pre ++ [(s.data.toList.drop a).take (b - a)])) := .inl ⟨by omega, Nat.le_refl _, _, hP2, hr.symm⟩
            have hl2 : (runsOf pre ++ [(s.data.toList.drop a).take (b - a)]).length ≤ 1073741824 := by
              rw [← hr]
              have := hP2.len
              have := runsOf_len' (pre ++ [((s.data.toList.drop a).take (b - a), true)])
              omega
            have hl3 : (runsOf pre).length + 1 ≤ 1073741824 := by simpa using hl2
            clear hbl HP h2 hP2 hne hr
            obtain ⟨a0, n0, c0, hv0⟩ := row_sl (unhide hO)
            subst hv0
            go_wp2_with fail
            refine (unhide C1 _).mono ?_
            rintro e w' ⟨rfl, hww⟩
            subst hww
            go_wp2_with (at_builtin; refine wpList_append_own _ rfl _ _ 24 rfl w.heap.size 9 i0 _ 1 16 Tryz.underlying24 hi hz0 hz1 hz2 rfl (by decide) _ _ _ rfl ((unhide hO).alloc _) ⟨w'.heap.size, 0, none⟩ 1 1 [.string (s.extract a b)] rfl rfl (one_new' _ _ _) (one_one' _) (by unfold maxLen; omega) (by omega) (by simp; omega) ?_)
            intro v1 w1 hO1 hg1 _
            have hB1 : Hid (Below w.heap.size w w1) := ((unhide hB).alloc hsz _).grown hg1 (by simp; omega) (fun j ej => ((unhide hO).lt j ej).1)
            rw [bt_extract] at hO1
            have hO2 : Hid (w1.ownsRow w.heap.size 9 1 v1 (runsOf pre ++ [(s.data.toList.drop a).take (b - a)]).length (strs1 (runsOf pre ++ [(s.data.toList.drop a).take (b - a)]))) := by
              show w1.ownsRow _ _ _ _ _ _
              rw [strs1_snoc, List.length_append]
              exact hO1
            obtain ⟨a1, n1, c1, rfl⟩ := row_sl hO1
            clear hO hB hg1 hO1
            go_wp2_with fail
            go_roundw
            case rel => exact ⟨b + 1, b + 1, _, by go_num, by go_num, by omega, by omega, hl2, hnx, hO2, hB1⟩
            case measure => simp [intOf] <;> omega
          · have hg' : ¬ (a : Int) < (b : Int) := by omega
            have hne : (s.data.toList.drop a).take (b - a) = [] := by rw [show b - a = 0 by omega]; rfl
            rw [hne] at hP2
            have hnx : Hid (FInv isBlank s.data.toList runsOf (fieldsL 0 s.data.toList) (b + 1) (b + 1) (runsOf pre)) := .inl ⟨by omega, Nat.le_refl _, _, hP2, (runsOf_snoc_nil pre true).symm⟩
            clear hbl HP h2 hP2 hne
            obtain ⟨a0, n0, c0, hv0⟩ := row_sl (unhide hO)
            subst hv0
            go_wp2_with fail
            refine (unhide C1 _).mono ?_
            rintro e w' ⟨rfl, hww⟩
            subst hww
            go_wp2_with fail
            go_roundw
            case rel => exact ⟨b + 1, b + 1, runsOf pre, by go_num, by go_num, by omega, by omega, hFl, hnx, hO, hB⟩
            case measure => simp [intOf] <;> omega
      · obtain rfl : b = s.size := by omega
        by_cases hg : a < s.size
        · have hg' : (a : Int) < (s.size : Int) := by omega
          have hx := (unhide HP).last h2.symm hg
          have hne : s.data.toList.drop a ≠ [] := by
            intro e
            have := congrArg List.length e
            rw [List.length_drop, List.length_nil] at this
            omega
          have hr : fieldsL 0 s.data.toList = runsOf pre ++ [s.data.toList.drop a] := by
            show runsOf (parts isBlank s.data.toList) = _
            rw [hx, runsOf_snoc pre _ false hne]
          have hnx : Hid (FInv isBlank s.data.toList runsOf (fieldsL 0 s.data.toList) (s.size + 1) (s.size + 1) (fieldsL 0 s.data.toList)) := .inr ⟨rfl, rfl⟩
          have hl3 : (runsOf pre).length + 1 ≤ 1073741824 := by rw [hr, List.length_append] at hrl; simp at hrl; omega
          have HR := hide hr
          clear HP h2 hx hne hr
          obtain ⟨a0, n0, c0, hv0⟩ := row_sl (unhide hO)
          subst hv0
          go_wp2_with (at_builtin; refine wpList_append_own _ rfl _ _ 24 rfl w.heap.size 9 i0 _ 1 16 Tryz.underlying24 hi hz0 hz1 hz2 rfl (by decide) _ _ _ rfl ((unhide hO).alloc _) ⟨wr.heap.size, 0, none⟩ 1 1 [.string (s.extract a s.size)] rfl rfl (one_new' _ _ _) (one_one' _) (by unfold maxLen; omega) (by omega) (by simp; omega) ?_)
          intro v1 w1 hO1 hg1 _
          have hB1 : Hid (Below w.heap.size w w1) := ((unhide hB).alloc hsz _).grown hg1 (by simp; omega) (fun j ej => ((unhide hO).lt j ej).1)
          rw [← bt_drop'] at hO1
          have hO2 : Hid (w1.ownsRow w.heap.size 9 1 v1 (fieldsL 0 s.data.toList).length (strs1 (fieldsL 0 s.data.toList))) := by
            show w1.ownsRow _ _ _ _ _ _
            rw [unhide HR, strs1_snoc, List.length_append]
            exact hO1
          obtain ⟨a1, n1, c1, rfl⟩ := row_sl hO1
          clear hO hB hg1 hO1
          go_wp2_with fail
          go_roundw
          case rel => exact ⟨s.size + 1, s.size + 1, _, by go_num, by go_num, Nat.le_refl _, Nat.le_refl _, by omega, hnx, hO2, hB1⟩
          case measure => simp [intOf] <;> omega
        · have hg' : ¬ (a : Int) < (s.size : Int) := by omega
          have hx := (unhide HP).whole (by omega)
          have hr : fieldsL 0 s.data.toList = runsOf pre := by
            show runsOf (parts isBlank s.data.toList) = _
            rw [hx]
          have hnx : Hid (FInv isBlank s.data.toList runsOf (fieldsL 0 s.data.toList) (s.size + 1) (s.size + 1) (runsOf pre)) := .inr ⟨rfl, hr.symm⟩
          clear HP h2 hx hr
          obtain ⟨a0, n0, c0, hv0⟩ := row_sl (unhide hO)
          subst hv0
          go_wp2_with fail
          go_roundw
          case rel => exact ⟨s.size + 1, s.size + 1, _, by go_num, by go_num, Nat.le_refl _, Nat.le_refl _, hFl, hnx, hO, hB⟩
          case measure => simp [intOf] <;> omega
    · have hle' : ¬ (b : Int) ≤ (s.size : Int) := by omega
      have hF : F = fieldsL 0 s.data.toList := by
        rcases unhide hinv with h | h
        · exfalso; omega
        · exact h.2
      subst hF
      obtain ⟨a0, n0, c0, hv0⟩ := row_sl (unhide hO)
      subst hv0
      go_wp2_with fail
      go_ret
      exact ⟨_, rfl, unhide hO, unhide hB⟩

def fsts (l : List (List UInt8 × Bool)) : List (List UInt8) := l.map (·.1)
theorem fsts_snoc (l : List (List UInt8 × Bool)) (x : List UInt8) (b : Bool) : fsts (l ++ [(x, b)]) = fsts l ++ [x] := by simp [fsts]

set_option maxRecDepth 100000 in
set_option maxHeartbeats 1000000 in
theorem refFields_sep (s : ByteArray) (sep : Nat) (w : World) (hs : s.size ≤ 1073741000) (h0 : sep ≠ 0) :
    Calls Tryz.prog 137 #[.string s, .int .u8 sep] w fun e w' => ∃ v, e = .returned v ∧ w'.ownsRow w.heap.size 9 1 v (fieldsL sep s.data.toList).length (strs1 (fieldsL sep s.data.toList)) ∧ Below w.heap.size w w' := by
  obtain ⟨i0, hi, hz0, hz1, hz2⟩ := info_parts Tryz.infoStr
  have hp1 : ((sep : Int) == 0) = false := by simp; omega
  have hp2 : ¬ (sep : Int) = 0 := by omega
  have ef : fieldsL sep s.data.toList = fsts (parts (isSep sep) s.data.toList) ++ if lastT (parts (isSep sep) s.data.toList) then [[]] else [] := by unfold fieldsL fsts; rw [if_neg h0]
  have HF := hide ef
  clear ef
  go_enter Tryz.func137, Tryz.ntmps137
  go_wp2_with fail
  go_loopw [5, 6, 7] (fun v vf vi wr => ∃ (a b : Nat) (F : List (List UInt8)), vf = .int .i64 a ∧ vi = .int .i64 b ∧ b ≤ s.size + 1 ∧ a ≤ s.size + 1 ∧ F.length ≤ 1073741824 ∧ Hid (FInv (isSep sep) s.data.toList fsts (fieldsL sep s.data.toList) a b F) ∧ Hid (wr.ownsRow w.heap.size 9 1 v F.length (strs1 F)) ∧ Hid (Below w.heap.size w wr)) (fun _ _ vi _ => s.size + 1 - (intOf vi).toNat)
  case atStart => exact ⟨0, 0, [], rfl, rfl, Nat.zero_le _, Nat.zero_le _, by simp, .inl ⟨Nat.zero_le _, Nat.le_refl _, [], PInv.start _ _, rfl⟩, World.ownsRow_nil _ _ _ _, Below.refl _ _⟩
  case round =>
    obtain ⟨a, b, F, rfl, rfl, hbs, has, hFl, hinv, hO, hB⟩ := hrel
    have hsz := (unhide hB).size
    have h2 : s.data.toList.length = s.size := rfl
    by_cases hle : b ≤ s.size
    · have hle' : (b : Int) ≤ (s.size : Int) := by omega
      obtain ⟨_, hab, pre, hP, rfl⟩ : b ≤ s.data.toList.length ∧ a ≤ b ∧ ∃ pre, PInv (isSep sep) s.data.toList a b pre ∧ F = fsts pre := by
        rcases unhide hinv with h | h
        · exact h
        · exfalso; omega
      have HP := hide hP
      have hpl := hP.len
      have hfl : (fsts pre).length = pre.length := by simp [fsts]
      clear hP hinv
      by_cases hlt : b < s.size
      · have hlt' : (b : Int) < (s.size : Int) := by omega
        have hll : b < s.data.toList.length := hlt
        by_cases hE : s[b].toNat = sep
        · have hE' : (s[b].toNat : Int) = (sep : Int) := by omega
          have hP2 := (unhide HP).hit hab hll (by show isSep sep s[b] = true; simp [isSep, hE])
          have hnx : Hid (FInv (isSep sep) s.data.toList fsts (fieldsL sep s.data.toList) (b + 1) (b + 1) (fsts pre ++ [(s.data.toList.drop a).take (b - a)])) := .inl ⟨by omega, Nat.le_refl _, _, hP2, (fsts_snoc _ _ _).symm⟩
          have hl2 : (fsts pre ++ [(s.data.toList.drop a).take (b - a)]).length ≤ 1073741824 := by
            rw [List.length_append, hfl]
            simp
            omega
          have hl3 : (fsts pre).length + 1 ≤ 1073741824 := by simpa using hl2
          clear hE HP h2 hP2 hfl hpl
          obtain ⟨a0, n0, c0, hv0⟩ := row_sl (unhide hO)
          subst hv0
          go_wp2_with (at_builtin; refine wpList_append_own _ rfl _ _ 24 rfl w.heap.size 9 i0 _ 1 16 Tryz.underlying24 hi hz0 hz1 hz2 rfl (by decide) _ _ _ rfl ((unhide hO).alloc _) ⟨wr.heap.size, 0, none⟩ 1 1 [.string (s.extract a b)] rfl rfl (one_new' _ _ _) (one_one' _) (by unfold maxLen; omega) (by omega) (by simp; omega) ?_)
          intro v1 w1 hO1 hg1 _
          have hB1 : Hid (Below w.heap.size w w1) := ((unhide hB).alloc hsz _).grown hg1 (by simp; omega) (fun j ej => ((unhide hO).lt j ej).1)
          rw [bt_extract] at hO1
          have hO2 : Hid (w1.ownsRow w.heap.size 9 1 v1 (fsts pre ++ [(s.data.toList.drop a).take (b - a)]).length (strs1 (fsts pre ++ [(s.data.toList.drop a).take (b - a)]))) := by
            show w1.ownsRow _ _ _ _ _ _
            rw [strs1_snoc, List.length_append]
            exact hO1
          obtain ⟨a1, n1, c1, rfl⟩ := row_sl hO1
          clear hO hB hg1 hO1
          go_wp2_with fail
          go_roundw
          case rel => exact ⟨b + 1, b + 1, _, by go_num, by go_num, by omega, by omega, hl2, hnx, hO2, hB1⟩
          case measure => simp [intOf] <;> omega
        · have hE' : ((s[b].toNat : Int) == (sep : Int)) = false := by simp; omega
          have hnx : Hid (FInv (isSep sep) s.data.toList fsts (fieldsL sep s.data.toList) a (b + 1) (fsts pre)) := .inl ⟨by omega, by omega, pre, (unhide HP).miss hab hll (by show isSep sep s[b] = false; simp [isSep, hE]), rfl⟩
          have hE2 : ((s[b].toNat : Int) != (sep : Int)) = true := by simp; omega
          clear hE HP h2 hfl hpl
          obtain ⟨a0, n0, c0, hv0⟩ := row_sl (unhide hO)
          subst hv0
          go_wp2_with fail
          go_roundw
          case rel => exact ⟨a, b + 1, fsts pre, rfl, by go_num, by omega, by omega, hFl, hnx, hO, hB⟩
          case measure => simp [intOf] <;> omega
      · obtain rfl : b = s.size := by omega
        have hr : fieldsL sep s.data.toList = fsts pre ++ [s.data.toList.drop a] := by
          rw [unhide HF]
          by_cases hg : a < s.size
          · rw [(unhide HP).last h2.symm hg, fsts_snoc, lastT_snoc]
            simp
          · rw [(unhide HP).whole (by omega), (last_true (unhide HP).ends).2, List.drop_eq_nil_of_le (by omega)]
            simp
        have hnx : Hid (FInv (isSep sep) s.data.toList fsts (fieldsL sep s.data.toList) (s.size + 1) (s.size + 1) (fieldsL sep s.data.toList)) := .inr ⟨rfl, rfl⟩
        have hl3 : (fsts pre).length + 1 ≤ 1073741824 := by omega
        have hl4 : (fieldsL sep s.data.toList).length ≤ 1073741824 := by rw [hr, List.length_append, hfl]; simp; omega
        have HR := hide hr
        clear HP hr hfl hpl
        obtain ⟨a0, n0, c0, hv0⟩ := row_sl (unhide hO)
        subst hv0
        go_wp2_with (at_builtin; refine wpList_append_own _ rfl _ _ 24 rfl w.heap.size 9 i0 _ 1 16 Tryz.underlying24 hi hz0 hz1 hz2 rfl (by decide) _ _ _ rfl ((unhide hO).alloc _) ⟨wr.heap.size, 0, none⟩ 1 1 [.string (s.extract a s.size)] rfl rfl (one_new' _ _ _) (one_one' _) (by unfold maxLen; omega) (by omega) (by simp; omega) ?_)
        intro v1 w1 hO1 hg1 _
        have hB1 : Hid (Below w.heap.size w w1) := ((unhide hB).alloc hsz _).grown hg1 (by simp; omega) (fun j ej => ((unhide hO).lt j ej).1)
        rw [← bt_drop'] at hO1
        have hO2 : Hid (w1.ownsRow w.heap.size 9 1 v1 (fieldsL sep s.data.toList).length (strs1 (fieldsL sep s.data.toList))) := by
          show w1.ownsRow _ _ _ _ _ _
          rw [unhide HR, strs1_snoc, List.length_append]
          exact hO1
        obtain ⟨a1, n1, c1, rfl⟩ := row_sl hO1
        clear hO hB hg1 hO1
        go_wp2_with fail
        go_roundw
        case rel => exact ⟨s.size + 1, s.size + 1, _, by go_num, by go_num, Nat.le_refl _, Nat.le_refl _, hl4, hnx, hO2, hB1⟩
        case measure => simp [intOf] <;> omega
    · have hle' : ¬ (b : Int) ≤ (s.size : Int) := by omega
      have hF : F = fieldsL sep s.data.toList := by
        rcases unhide hinv with h | h
        · exfalso; omega
        · exact h.2
      subst hF
      obtain ⟨a0, n0, c0, hv0⟩ := row_sl (unhide hO)
      subst hv0
      go_wp2_with fail
      go_ret
      exact ⟨_, rfl, unhide hO, unhide hB⟩

theorem refFields_any (s : ByteArray) (sep : Nat) (w : World) (hs : s.size ≤ 1073741000) :
    Calls Tryz.prog 137 #[.string s, .int .u8 sep] w fun e w' => ∃ v, e = .returned v ∧ w'.ownsRow w.heap.size 9 1 v (fieldsL sep s.data.toList).length (strs1 (fieldsL sep s.data.toList)) ∧ Below w.heap.size w w' := by
  by_cases h : sep = 0
  · subst h; exact refFields_blank s w (by omega)
  · exact refFields_sep s sep w hs h
end Go.Proofs.YtjfjhpakkflceaaGreatDoor.Ln

/- What the document's Check and Parts answer. -/
namespace Go.Proofs.YtjfjhpakkflceaaGreatDoor.Ky
open Go.RowKit Go.Shelf

attribute [local go_sem] Oper.semAt_some

set_option maxHeartbeats 1000000 in
theorem rcheck_any (o : Ord) (w : World) :
    Calls Tryz.prog 34 #[ov o] w fun e w' => e = .returned (.bool (okO o)) ∧ Below w.heap.size w w' := by
  have e10 : o.sep ≠ 10 ↔ ¬ (o.sep.toNat : Int) = 10 := by
    constructor
    · intro h h'; exact h (UInt8.toNat_inj.1 (by rw [show (10 : UInt8).toNat = 10 from rfl]; omega))
    · intro h h'; exact h (by rw [h']; rfl)
  obtain ⟨r, hr⟩ : ∃ r, r = okO o := ⟨_, rfl⟩
  rw [← hr]
  unfold okO at hr
  simp only [e10] at hr
  unfold ov
  obtain ⟨fr, tt, sep, num, bls, fold, rev⟩ := o
  simp only at hr ⊢
  generalize (sep.toNat : Int) = c at *
  clear e10
  by_cases h1 : fr < 0
  · obtain rfl : r = false := by rw [hr]; simp; omega
    clear hr
    go_enter Tryz.func34, Tryz.ntmps34
    go_wp2
    go_ret
    exact ⟨rfl, (Below.refl _ _).alloc (Nat.le_refl _) _⟩
  by_cases h2 : 1000 < fr
  · obtain rfl : r = false := by rw [hr]; simp; omega
    clear hr
    go_enter Tryz.func34, Tryz.ntmps34
    go_wp2
    go_ret
    exact ⟨rfl, (Below.refl _ _).alloc (Nat.le_refl _) _⟩
  by_cases h3 : c = 10
  · obtain rfl : r = false := by rw [hr]; simp; omega
    clear hr
    subst h3
    go_enter Tryz.func34, Tryz.ntmps34
    go_wp2
    go_ret
    exact ⟨rfl, (Below.refl _ _).alloc (Nat.le_refl _) _⟩
  by_cases h4 : tt = 0
  · obtain rfl : r = true := by rw [hr]; simp; omega
    clear hr
    subst h4
    go_enter Tryz.func34, Tryz.ntmps34
    go_wp2
    go_ret
    exact ⟨rfl, (Below.refl _ _).alloc (Nat.le_refl _) _⟩
  have h4' : (tt == 0) = false := by simpa using h4
  by_cases h5 : 0 < fr
  · by_cases h6 : fr ≤ tt
    · by_cases h7 : tt ≤ 1000
      · obtain rfl : r = true := by rw [hr]; simp; omega
        clear hr
        go_enter Tryz.func34, Tryz.ntmps34
        go_wp2
        go_ret
        exact ⟨rfl, (Below.refl _ _).alloc (Nat.le_refl _) _⟩
      · obtain rfl : r = false := by rw [hr]; simp; omega
        clear hr
        go_enter Tryz.func34, Tryz.ntmps34
        go_wp2
        go_ret
        exact ⟨rfl, (Below.refl _ _).alloc (Nat.le_refl _) _⟩
    · obtain rfl : r = false := by rw [hr]; simp; omega
      clear hr
      go_enter Tryz.func34, Tryz.ntmps34
      go_wp2
      go_ret
      exact ⟨rfl, (Below.refl _ _).alloc (Nat.le_refl _) _⟩
  · obtain rfl : r = false := by rw [hr]; simp; omega
    clear hr
    go_enter Tryz.func34, Tryz.ntmps34
    go_wp2
    go_ret
    exact ⟨rfl, (Below.refl _ _).alloc (Nat.le_refl _) _⟩

theorem rblank_any (c : UInt8) (w : World) :
    Calls Tryz.prog 139 #[.int .u8 (c.toNat : Int)] w fun e w' => e = .returned (.bool (bl c)) ∧ w' = w := by
  have e : bl c = decide ((c.toNat : Int) = 32 ∨ (c.toNat : Int) = 9) := by
    unfold bl
    have h1 := u8_eq c 32
    have h2 := u8_eq c 9
    simp only [decide_eq_decide] at h1 h2
    simp only [h1, h2]; rfl
  rw [e]
  generalize (c.toNat : Int) = x
  clear e
  by_cases h1 : x = 32
  · subst h1
    go_enter Tryz.func139, Tryz.ntmps139
    go_wp2
    go_ret
    exact ⟨rfl, rfl⟩
  · by_cases h2 : x = 9
    · subst h2
      go_enter Tryz.func139, Tryz.ntmps139
      go_wp2
      go_ret
      exact ⟨rfl, rfl⟩
    · have a1 : (x == 32) = false := by simpa using h1
      have a2 : (x == 9) = false := by simpa using h2
      go_enter Tryz.func139, Tryz.ntmps139
      go_wp2
      go_ret
      exact ⟨by simp [h1, h2], rfl⟩

theorem parts_more (l : Bs) (pre : List Bs) (k : Nat) (h : k < l.length) (hp : partsOf l = pre ++ partsOf (l.drop k)) : partsOf l = (pre ++ [(l.drop k).take (fend l k - k)]) ++ partsOf (l.drop (fend l k)) ∧ k < fend l k := by
  obtain ⟨c, r, e⟩ := partsOf_at l k h
  have h1 := partsOf_cons c r
  rw [← e] at h1
  have h2 : part1 (l.drop k) = (l.drop k).take (fend l k - k) := by
    rw [fend_eq, Nat.add_sub_cancel_left]
    have := congrArg (List.take (part1 (l.drop k)).length) (part12 (l.drop k))
    rw [List.take_left] at this
    exact this
  refine ⟨by rw [hp, h1, fend_drop, h2]; simp, ?_⟩
  have h3 := part2_lt c r
  rw [← e, ← fend_drop] at h3
  have h4 := congrArg List.length e
  rw [List.length_drop, List.length_cons] at h4
  rw [List.length_drop] at h3
  omega
theorem pre_len (l : Bs) (pre : List Bs) (k : Nat) (hp : partsOf l = pre ++ partsOf (l.drop k)) : pre.length ≤ l.length := by
  have h : ∀ n (l : Bs), l.length ≤ n → (partsOf l).length ≤ l.length := by
    intro n
    induction n with
    | zero => intro l h; cases l with
      | nil => exact Nat.le_refl _
      | cons c r => simp at h
    | succ n ih =>
      intro l h
      cases l with
      | nil => exact Nat.le_refl _
      | cons c r =>
        have h1 := part2_lt c r
        simp at h
        have h2 := ih (part2 (c :: r)) (by omega)
        rw [partsOf_cons]; simp; omega
  have h1 := h l.length l (Nat.le_refl _)
  rw [hp, List.length_append] at h1
  omega

set_option maxRecDepth 100000 in
set_option maxHeartbeats 1000000 in
theorem rparts_any (s : ByteArray) (w : World) (hs : s.size ≤ 1073741000) :
    Calls Tryz.prog 136 #[.string s] w fun e w' => ∃ v, e = .returned v ∧ w'.ownsRow w.heap.size 9 1 v (partsOf s.data.toList).length (Ln.strs1 (partsOf s.data.toList)) ∧ Below w.heap.size w w' := by
  obtain ⟨i0, hi, hz0, hz1, hz2⟩ := info_parts Ln.Tryz.infoStr
  have C : Hid (∀ (c : UInt8) (w : World), Calls Tryz.prog 139 #[.int .u8 (c.toNat : Int)] w fun e w' => e = .returned (.bool (bl c)) ∧ w' = w) := rblank_any
  go_enter Tryz.func136, Tryz.ntmps136
  go_wp2_with fail
  go_loopg [3, 4, 5] s.size (fun g v vk _ wr => ∃ (k : Nat) (pre : List Bs), k ≤ s.size ∧ g = s.size - k ∧ vk = .int .i64 k ∧ pre.length ≤ 1073741000 ∧ Hid (partsOf s.data.toList = pre ++ partsOf (s.data.toList.drop k)) ∧ Hid (wr.ownsRow w.heap.size 9 1 v pre.length (Ln.strs1 pre)) ∧ Hid (Below w.heap.size w wr))
  case atStart => exact ⟨0, [], Nat.zero_le _, rfl, rfl, by simp, rfl, World.ownsRow_nil _ _ _ _, Below.refl _ _⟩
  case round =>
    obtain ⟨k, pre, hk, rfl, rfl, hpl, hP, hO, hB⟩ := hrel
    have hsz := (unhide hB).size
    obtain ⟨a0, n0, c0, hv0⟩ := Ln.row_sl (unhide hO)
    subst hv0
    by_cases hlt : k < s.size
    · have hlt' : (k : Int) < (s.size : Int) := by omega
      have hll : k < s.data.toList.length := hlt
      obtain ⟨m, hm⟩ : ∃ m, m = upto bl s.data.toList k := ⟨_, rfl⟩
      obtain ⟨q, hq⟩ : ∃ q, q = fend s.data.toList k := ⟨_, rfl⟩
      have hmore := parts_more s.data.toList pre k hll (unhide hP)
      have hfl := fend_le s.data.toList k (by omega)
      rw [← hq] at hmore hfl
      have hql : q ≤ s.size := hfl.2
      have hkq : k < q := hmore.2
      have hkq' : k ≤ q := by omega
      have hP2 := hide hmore.1
      have hl2 : Hid ((pre ++ [(s.data.toList.drop k).take (q - k)]).length ≤ 1073741000) := by
        have := pre_len _ _ _ hmore.1
        have h2 : s.data.toList.length = s.size := rfl
        show _ ≤ _
        omega
      have hl3 : pre.length + 1 ≤ 1073741000 := by have := unhide hl2; rw [List.length_append, List.length_singleton] at this; exact this
      have HQ : Hid (q = upto (fun c => !bl c) s.data.toList m) := by show _ = _; rw [hq, hm]; rfl
      have HM := hide hm
      have hml : m ≤ s.size := by rw [hm]; exact (upto_le bl s.data.toList k (by omega)).2
      clear hm hq hmore hfl hP hll
      go_upto_block 2 with fail
      go_cut [4] (fun v wx => wr = wx ∧ v = .int .i64 (m : Int))
      case first =>
        go_wp2_with fail
        go_loopg [4] (s.size - k) (fun g v wx => wr = wx ∧ ∃ j : Nat, j ≤ s.size ∧ g = s.size - j ∧ v = .int .i64 j ∧ Hid (m = upto bl s.data.toList j))
        case atStart => exact ⟨rfl, k, hk, rfl, rfl, HM⟩
        case round =>
          clear hlt'
          obtain ⟨rfl, j, hj, rfl, rfl, hu⟩ := hrel
          by_cases hlt : j < s.size
          · have hlt' : (j : Int) < (s.size : Int) := by omega
            have HC := hide (unhide C s[j])
            cases hp : bl s[j]
            · rw [hp] at HC
              have hu2 := hide ((unhide hu).trans (upto_stop hlt hp))
              clear hp hu C
              go_wp2_with fail
              refine (unhide HC _).mono ?_
              rintro e w' ⟨rfl, hw⟩
              rw [hw]
              go_wp2_with fail
              go_meet
              exact ⟨rfl, by rw [unhide hu2]⟩
            · rw [hp] at HC
              have hu2 := hide ((unhide hu).trans (upto_step hlt hp))
              clear hp hu C
              go_wp2_with fail
              refine (unhide HC _).mono ?_
              rintro e w' ⟨rfl, hw⟩
              rw [hw]
              go_wp2_with fail
              go_roundg (s.size - (j + 1))
              case measure => omega
              case rel => exact ⟨rfl, j + 1, by omega, rfl, by go_num, hu2⟩
          · have hlt' : ¬ (j : Int) < (s.size : Int) := by omega
            have hu2 := hide ((unhide hu).trans (upto_end (by omega)))
            clear hu C
            go_wp2_with fail
            go_meet
            exact ⟨rfl, by rw [unhide hu2]⟩
      case rest =>
        obtain ⟨rfl, rfl⟩ := hcut
        clear HM
        go_upto_block 4 with fail
        go_cut [4] (fun v wx => wr = wx ∧ v = .int .i64 (q : Int))
        case first =>
          go_wp2_with fail
          go_loopg [4] (s.size - m) (fun g v wx => wr = wx ∧ ∃ j : Nat, j ≤ s.size ∧ g = s.size - j ∧ v = .int .i64 j ∧ Hid (q = upto (fun c => !bl c) s.data.toList j))
          case atStart => exact ⟨rfl, m, hml, rfl, rfl, HQ⟩
          case round =>
            clear hlt'
            obtain ⟨rfl, j, hj, rfl, rfl, hu⟩ := hrel
            by_cases hlt : j < s.size
            · have hlt' : (j : Int) < (s.size : Int) := by omega
              have HC := hide (unhide C s[j])
              cases hp : bl s[j]
              · rw [hp] at HC
                have hu2 := hide ((unhide hu).trans (upto_step (p := fun c => !bl c) hlt (by simp [hp])))
                clear hp hu C
                go_wp2_with fail
                refine (unhide HC _).mono ?_
                rintro e w' ⟨rfl, hw⟩
                rw [hw]
                go_wp2_with fail
                go_roundg (s.size - (j + 1))
                case measure => omega
                case rel => exact ⟨rfl, j + 1, by omega, rfl, by go_num, hu2⟩
              · rw [hp] at HC
                have hu2 := hide ((unhide hu).trans (upto_stop (p := fun c => !bl c) hlt (by simp [hp])))
                clear hp hu C
                go_wp2_with fail
                refine (unhide HC _).mono ?_
                rintro e w' ⟨rfl, hw⟩
                rw [hw]
                go_wp2_with fail
                go_meet
                exact ⟨rfl, by rw [unhide hu2]⟩
            · have hlt' : ¬ (j : Int) < (s.size : Int) := by omega
              have hu2 := hide ((unhide hu).trans (upto_end (p := fun c => !bl c) (by omega)))
              clear hu C
              go_wp2_with fail
              go_meet
              exact ⟨rfl, by rw [unhide hu2]⟩
        case rest =>
          obtain ⟨rfl, rfl⟩ := hcut
          clear HQ C
          go_wp2_with (at_builtin; refine wpList_append_own _ rfl _ _ 24 rfl w.heap.size 9 i0 _ 1 16 Tryz.underlying24 hi hz0 hz1 hz2 rfl (by decide) _ _ _ rfl ((unhide hO).alloc _) ⟨wr.heap.size, 0, none⟩ 1 1 [.string (s.extract k q)] rfl rfl (Ln.one_new' _ _ _) (Ln.one_one' _) (by unfold maxLen; omega) (by omega) (by simp; omega) ?_)
          intro v1 w1 hO1 hg1 _
          have hB1 : Hid (Below w.heap.size w w1) := ((unhide hB).alloc hsz _).grown hg1 (by simp; omega) (fun j ej => ((unhide hO).lt j ej).1)
          rw [Ln.bt_extract] at hO1
          have hO2 : Hid (w1.ownsRow w.heap.size 9 1 v1 (pre ++ [(s.data.toList.drop k).take (q - k)]).length (Ln.strs1 (pre ++ [(s.data.toList.drop k).take (q - k)]))) := by
            show w1.ownsRow _ _ _ _ _ _
            rw [Ln.strs1_snoc, List.length_append]
            exact hO1
          obtain ⟨a1, n1, c1, rfl⟩ := Ln.row_sl hO1
          clear hO hB hg1 hO1
          go_wp2_with fail
          go_roundg (s.size - q)
          case measure => omega
          case rel => exact ⟨q, _, hql, rfl, rfl, unhide hl2, hP2, hO2, hB1⟩
    · have hlt' : ¬ (k : Int) < (s.size : Int) := by omega
      have hP2 : partsOf s.data.toList = pre := by rw [unhide hP, List.drop_eq_nil_of_le (show s.data.toList.length ≤ k by have : s.data.toList.length = s.size := rfl; omega), partsOf_nil, List.append_nil]
      have HP2 := hide hP2
      clear hP hP2
      go_wp2_with fail
      go_ret
      exact ⟨_, rfl, by rw [unhide HP2]; exact unhide hO, unhide hB⟩
end Go.Proofs.YtjfjhpakkflceaaGreatDoor.Ky

/- What the document's fit answers. -/
namespace Go.Proofs.YtjfjhpakkflceaaGreatDoor.Ky
open Go.RowKit Go.Shelf

attribute [local go_sem] Oper.semAt_some

theorem OR.other {W : World} {k b i : Nat} {o : Ord} (h : OR W k o) (hb : b ≠ k) (v : Value) : OR (W.setCell ⟨b, i, none⟩ v) k o := by
  unfold OR at *
  show (W.heap.modify b _)[k]? = _
  rw [Array.getElem?_modify, if_neg hb]; exact h
/-- where the key begins, blanks left out or not -/
def fitAt (o : Ord) (s : Bs) : Nat := if o.bls = true then upto bl s 0 else 0
theorem fit_at (o : Ord) (s : Bs) : fit o s = (s.drop (fitAt o s)).map (fun c => if o.fold = true then up c else c) := by
  unfold fit fitAt
  cases o.bls
  · simp
  · simp only [if_true]
    have := upto_drop bl s 0
    rw [List.drop_zero] at this
    rw [this]
theorem fit_small {o : Ord} (h : o.fold = false) (s : Bs) : fit o s = s.drop (fitAt o s) := by
  rw [fit_at, h]; simp
theorem fit_great {o : Ord} (h : o.fold = true) (s : Bs) : fit o s = (s.drop (fitAt o s)).map up := by
  rw [fit_at, h]; simp

set_option maxRecDepth 100000 in
set_option maxHeartbeats 1000000 in
theorem rfit_any (o : Ord) (s : ByteArray) (w : World) (hs : s.size ≤ 1073741824) :
    Calls Tryz.prog 96 #[ov o, .string s] w fun e w' => e = .returned (.string (Ln.bt (fit o s.data.toList))) ∧ Below w.heap.size w w' := by
  have C : Hid (∀ (c : UInt8) (w : World), Calls Tryz.prog 139 #[.int .u8 (c.toNat : Int)] w fun e w' => e = .returned (.bool (bl c)) ∧ w' = w) := rblank_any
  obtain ⟨m, hm⟩ : ∃ m, m = fitAt o s.data.toList := ⟨_, rfl⟩
  have hml : m ≤ s.size := by
    rw [hm]; unfold fitAt
    split
    · exact (upto_le bl s.data.toList 0 (Nat.zero_le _)).2
    · exact Nat.zero_le _
  obtain ⟨Q, hQ⟩ : ∃ Q, Q = s.extract m s.size := ⟨_, rfl⟩
  have hQd : Q.data.toList = s.data.toList.drop m := by rw [hQ, ← Ln.bt_drop']; rfl
  have hQs : Q.size ≤ s.size := by
    have : Q.size = Q.data.toList.length := rfl
    rw [this, hQd, List.length_drop]
    have : s.data.toList.length = s.size := rfl
    omega
  have HQ := hide hQ.symm
  have hres1 : Hid (o.fold = false → Ln.bt (fit o s.data.toList) = Q) := fun h => by rw [fit_small h, ← hm, ← hQd]; rfl
  have hres2 : Hid (o.fold = true → Ln.bt (fit o s.data.toList) = Ln.bt (Q.data.toList.map up)) := fun h => by rw [fit_great h, ← hm, ← hQd]
  obtain ⟨R, hR⟩ : ∃ R, R = Ln.bt (fit o s.data.toList) := ⟨_, rfl⟩
  rw [← hR] at hres1 hres2 ⊢
  have HM : Hid (o.bls = true → m = upto bl s.data.toList 0) := fun h => by rw [hm]; unfold fitAt; rw [if_pos h]
  have HM0 : Hid (o.bls = false → m = 0) := fun h => by rw [hm]; unfold fitAt; rw [h]; rfl
  have p0 := hide (OR.new w o)
  have B0 : Hid (Below w.heap.size w (w.alloc (.cells #[.bool o.num, .bool o.fold, .bool o.bls, .bool o.rev, .int .i64 o.fr, .int .i64 o.«to», .int .u8 (o.sep.toNat : Int)] 23))) := (Below.refl _ _).alloc (Nat.le_refl _) _
  obtain ⟨w0, hw0⟩ : ∃ w0, w0 = w.alloc (.cells #[.bool o.num, .bool o.fold, .bool o.bls, .bool o.rev, .int .i64 o.fr, .int .i64 o.«to», .int .u8 (o.sep.toNat : Int)] 23) := ⟨_, rfl⟩
  rw [← hw0] at p0 B0
  have hk0 : w.heap.size < w0.heap.size := by rw [hw0]; simp
  unfold ov
  clear hm hQ hR hQd
  go_enter Tryz.func96, Tryz.ntmps96
  go_upto_block 0 with fail
  rw [← hw0]
  clear hw0
  obtain ⟨d0, d1, d2, d3, d4, d5, d6⟩ := (unhide p0).cells
  go_cut [5] (fun v wx => w0 = wx ∧ v = .int .i64 (m : Int))
  case first =>
    have hm1 := unhide HM
    have hm0 := unhide HM0
    clear HM HM0 hres1 hres2 HQ p0
    obtain ⟨bb, hbb⟩ : ∃ b, b = o.bls := ⟨_, rfl⟩
    rw [← hbb] at d2 hm1 hm0
    clear hbb
    cases bb
    · obtain rfl := hm0 rfl
      clear hm1 hm0
      go_wp2_with fail
      go_loopg [5] s.size (fun g v wx => w0 = wx ∧ v = .int .i64 ((0 : Nat) : Int))
      case atStart => exact ⟨rfl, rfl⟩
      case round =>
        obtain ⟨rfl, rfl⟩ := hrel
        go_wp2_with fail
        go_meet
        exact ⟨rfl, rfl⟩
    · have HN1 := hide (hm1 rfl)
      clear hm1 hm0
      go_wp2_with fail
      go_loopg [5] s.size (fun g v wx => w0 = wx ∧ ∃ k : Nat, k ≤ s.size ∧ g = s.size - k ∧ v = .int .i64 k ∧ Hid (m = upto bl s.data.toList k))
      case atStart => exact ⟨rfl, 0, Nat.zero_le _, rfl, rfl, HN1⟩
      case round =>
        obtain ⟨rfl, k, hk, rfl, rfl, hu⟩ := hrel
        clear HN1
        by_cases hlt : k < s.size
        · have hlt' : (k : Int) < (s.size : Int) := by omega
          have HC := hide (unhide C s[k])
          cases hp : bl s[k]
          · rw [hp] at HC
            have hu2 := hide ((unhide hu).trans (upto_stop hlt hp))
            clear hp hu C
            go_wp2_with fail
            refine (unhide HC _).mono ?_
            rintro e w' ⟨rfl, hw⟩
            rw [hw]
            go_wp2_with fail
            go_meet
            exact ⟨rfl, by rw [unhide hu2]⟩
          · rw [hp] at HC
            have hu2 := hide ((unhide hu).trans (upto_step hlt hp))
            clear hp hu C
            go_wp2_with fail
            refine (unhide HC _).mono ?_
            rintro e w' ⟨rfl, hw⟩
            rw [hw]
            go_wp2_with fail
            go_roundg (s.size - (k + 1))
            case measure => omega
            case rel => exact ⟨rfl, k + 1, by omega, rfl, by go_num, hu2⟩
        · have hlt' : ¬ (k : Int) < (s.size : Int) := by omega
          have hu2 := hide ((unhide hu).trans (upto_end (by omega)))
          clear hu C
          go_wp2_with fail
          go_meet
          exact ⟨rfl, by rw [unhide hu2]⟩
  case rest =>
    obtain ⟨rfl, rfl⟩ := hcut
    clear C HM HM0 d0 d1 d2 d3 d4 d5 d6
    have hcv := run_bytes_of_string w0 9 98 5 Q Tryz.underlying9 Tryz.underlying98 Tryz.underlying5
    obtain ⟨c, hc⟩ : ∃ c, c = grownCap w0 Q.size 0 5 := ⟨_, rfl⟩
    rw [← hc] at hcv
    have hR0 := hide (Rw.new Q w0 c)
    have hB0 : Hid (Below w.heap.size w (w0.drew.alloc (.cells (bytesRow Q c) 5 ((bytesRow Q c).size, (bytesRow Q c).size + 1)))) := ((unhide B0).drew).alloc (Nat.le_of_lt hk0) _
    have p1 : Hid (OR (w0.drew.alloc (.cells (bytesRow Q c) 5 ((bytesRow Q c).size, (bytesRow Q c).size + 1))) w.heap.size o) := OR.alloc (W := w0.drew) (unhide p0) _
    generalize w0.drew.alloc (.cells (bytesRow Q c) 5 ((bytesRow Q c).size, (bytesRow Q c).size + 1)) = w1 at *
    have hq := unhide HQ
    have hne : w0.heap.size ≠ w.heap.size := by omega
    have HNE := hide hne
    clear hc p0 B0 HQ hne
    go_wp2_with fail
    clear hcv hq
    obtain ⟨ff, hff⟩ : ∃ b, b = o.fold := ⟨_, rfl⟩
    have HFF := hide hff.symm
    rw [← hff] at hres1 hres2
    clear hff
    cases ff
    · obtain rfl := (unhide hres1 rfl).symm
      have hbk := (unhide hR0).back (c := c)
      rw [show Q.data.toList.length = Q.size from rfl, show Ln.bt Q.data.toList = Q from rfl] at hbk
      obtain ⟨d0, d1, d2, d3, d4, d5, d6⟩ := (unhide p1).cells
      rw [unhide HFF] at d1
      clear hres1 hres2 hR0 p1 HNE HFF
      go_loopg [7] Q.size (fun g i wr => w1 = wr ∧ ∃ k : Nat, k ≤ Q.size ∧ g = Q.size - k ∧ i = .int .i64 k)
      case atStart => exact ⟨rfl, 0, Nat.zero_le _, rfl, rfl⟩
      case round =>
        obtain ⟨rfl, k, hk, rfl, rfl⟩ := hrel
        by_cases hlt : k < Q.size
        · have hlt' : (k : Int) < (Q.size : Int) := by omega
          clear hbk
          go_wp2_with fail
          go_roundg (Q.size - (k + 1))
          case measure => omega
          case rel => exact ⟨rfl, k + 1, by omega, rfl, by go_num⟩
        · have hlt' : ¬ (k : Int) < (Q.size : Int) := by omega
          go_wp2_with fail
          go_ret
          exact ⟨rfl, unhide hB0⟩
    · obtain rfl := (unhide hres2 rfl).symm
      clear hres1 hres2
      go_loopg [7] Q.size (fun g i wr => ∃ k : Nat, k ≤ Q.size ∧ g = Q.size - k ∧ i = .int .i64 k ∧ Hid (Rw wr w0.heap.size (upTo Q.data.toList k)) ∧ Hid (OR wr w.heap.size o) ∧ Hid (Below w.heap.size w wr))
      case atStart => exact ⟨0, Nat.zero_le _, rfl, rfl, by simpa [upTo] using hR0, p1, hB0⟩
      case round =>
        clear hR0 hB0 p1
        obtain ⟨k, hk, rfl, rfl, hR, hP, hB⟩ := hrel
        obtain ⟨d0, d1, d2, d3, d4, d5, d6⟩ := (unhide hP).cells
        rw [unhide HFF] at d1
        clear HFF
        by_cases hlt : k < Q.size
        · have hlt' : (k : Int) < (Q.size : Int) := by omega
          have hll : k < Q.data.toList.length := hlt
          have hl2 : k < (upTo Q.data.toList k).length := by rw [upTo_len]; exact hll
          have hcell := (unhide hR).cell hl2
          rw [upTo_at _ _ hll, show Q.data.toList[k] = Q[k] from rfl] at hcell
          have hfz := (unhide hR).frozen hl2
          have hset := hide ((unhide hR).set (i := k) (up Q.data.toList[k]))
          rw [upTo_set _ _ hll, show Q.data.toList[k] = Q[k] from rfl] at hset
          have hsame := hide (upTo_same Q.data.toList k hll)
          rw [show Q.data.toList[k] = Q[k] from rfl] at hsame
          have h8 := Q[k].toNat_lt
          generalize Q[k] = x at *
          by_cases hL : 97 ≤ x.toNat ∧ x.toNat ≤ 122
          · have hu : (up x).toNat = x.toNat - 32 := by
              have h1 : 97 ≤ x ∧ x ≤ 122 := by rw [UInt8.le_iff_toNat_le, UInt8.le_iff_toNat_le]; exact hL
              unfold up
              rw [if_pos h1, UInt8.toNat_sub_of_le _ _ (by rw [UInt8.le_iff_toNat_le]; show 32 ≤ x.toNat; omega)]; rfl
            have hue : ((up x).toNat : Int) = (x.toNat : Int) - 32 := by omega
            rw [hue] at hset
            have l1 : (97 : Int) ≤ (x.toNat : Int) := by omega
            have l2 : (x.toNat : Int) ≤ 122 := by omega
            have hb2 : Hid (Below w.heap.size w (wr.setCell ⟨w0.heap.size, k, none⟩ (.int .u8 ((x.toNat : Int) - 32)))) := (unhide hB).setCell (p := ⟨w0.heap.size, k, none⟩) (Nat.le_of_lt hk0) _
            have hp2 : Hid (OR (wr.setCell ⟨w0.heap.size, k, none⟩ (.int .u8 ((x.toNat : Int) - 32))) w.heap.size o) := (unhide hP).other (unhide HNE) _
            clear hu hue hsame hR hB hL hP
            go_wp2_with fail
            go_roundg (Q.size - (k + 1))
            case measure => omega
            case rel => exact ⟨k + 1, by omega, rfl, by go_num, hset, hp2, hb2⟩
          · have hu : up x = x := by
              unfold up
              rw [if_neg (fun h => hL ⟨by have := UInt8.le_iff_toNat_le.1 h.1; exact this, by have := UInt8.le_iff_toNat_le.1 h.2; exact this⟩)]
            rw [unhide hsame hu] at hR
            clear hset hsame hu
            rcases (show ¬ (97 : Int) ≤ (x.toNat : Int) ∨ ((97 : Int) ≤ (x.toNat : Int) ∧ ¬ (x.toNat : Int) ≤ 122) by omega) with l1 | ⟨l1, l2⟩
            all_goals
              clear hL
              go_wp2_with fail
              go_roundg (Q.size - (k + 1))
              case measure => omega
              case rel => exact ⟨k + 1, by omega, rfl, by go_num, hR, hP, hB⟩
        · rw [upTo_all _ _ (show Q.data.toList.length ≤ k by have : Q.data.toList.length = Q.size := rfl; omega)] at hR
          have hlt' : ¬ (k : Int) < (Q.size : Int) := by omega
          have hbk := (unhide hR).back (c := c)
          rw [List.length_map, show Q.data.toList.length = Q.size from rfl] at hbk
          obtain ⟨R2, hR2⟩ : ∃ R, R = Ln.bt (Q.data.toList.map up) := ⟨_, rfl⟩
          rw [← hR2] at hbk
          have HR := hide hR2
          clear hR hR2
          go_wp2_with fail
          go_ret
          exact ⟨by rw [← unhide HR]; rfl, unhide hB⟩
end Go.Proofs.YtjfjhpakkflceaaGreatDoor.Ky

/- Plain facts for the document's Key: the fields joined one by one. -/
namespace Go.Proofs.YtjfjhpakkflceaaGreatDoor.Ky
open Go.RowKit

theorem ln_join (b : Bs) : ∀ l : List Bs, ∀ k, (join b (l.take k)).length ≤ (join b l).length
  | [], _ => by simp [join]
  | [x], 0 => by simp [join]
  | [x], k + 1 => by simp [join]
  | x :: y :: l, 0 => by simp [join]
  | x :: y :: l, 1 => by simp [join]
  | x :: y :: l, k + 2 => by
    have := ln_join b (y :: l) (k + 1)
    simp only [List.take_succ_cons, join, List.length_append] at this ⊢
    omega
theorem ln_drop (b : Bs) (l : List Bs) (k : Nat) : (join b (l.drop k)).length ≤ (join b l).length := by
  by_cases h : k < l.length
  · rw [join_rest b l k h]; simp
  · rw [List.drop_eq_nil_of_le (by omega)]; simp [join]
/-- the fields of which the key is made -/
theorem key_steps {o : Ord} {s : Bs} (hok : okO o = true) (hfr : 0 < o.fr) : ∃ L : List Bs, key o s = join (btw o) L ∧ (join (btw o) L).length ≤ s.length ∧
    (∀ k n : Nat, (n : Int) = o.fr + k → (k < L.length ↔ ((n : Int) ≤ ((fields o s).length : Int) ∧ (o.to = 0 ∨ (n : Int) ≤ o.to)))) ∧
    (∀ (k m : Nat), k < L.length → (m : Int) = o.fr + k - 1 → (fields o s)[m]? = L[k]?) := by
  have hj := fields_join o s
  have hd := ln_drop (btw o) (fields o s) (o.fr.toNat - 1)
  rw [hj] at hd
  by_cases h : o.to = 0
  · refine ⟨(fields o s).drop (o.fr.toNat - 1), by rw [key_in hok hfr, if_pos h], hd, ?_, ?_⟩
    · intro k n hn
      rw [List.length_drop]
      constructor
      · intro hk; exact ⟨by omega, .inl h⟩
      · intro hk; omega
    · intro k m hk hm
      rw [List.getElem?_drop]
      congr 1; omega
  · have hft : o.fr ≤ o.to := by
      have : okO o = true := hok
      unfold okO at this; simp at this; omega
    refine ⟨((fields o s).drop (o.fr.toNat - 1)).take (o.to.toNat + 1 - o.fr.toNat), by rw [key_in hok hfr, if_neg h], Nat.le_trans (ln_join _ _ _) hd, ?_, ?_⟩
    · intro k n hn
      rw [List.length_take, List.length_drop]
      constructor
      · intro hk; exact ⟨by omega, .inr (by omega)⟩
      · rintro ⟨h1, h2⟩; rcases h2 with h2 | h2 <;> omega
    · intro k m hk hm
      rw [List.length_take] at hk
      rw [List.getElem?_take_of_lt (by omega), List.getElem?_drop]
      congr 1; omega
theorem split_len (p : UInt8) : ∀ l : Bs, (split p l).length ≤ l.length + 1
  | [] => by simp [split]
  | c :: r => by
    have i := split_len p r
    rw [split]
    split
    · simp; omega
    · split
      · simp
      · rename_i h; rw [h] at i; simp at i ⊢; omega
theorem parts_len : ∀ (f : Nat) (l : Bs), (parts f l).length ≤ l.length
  | _, [] => by simp [parts]
  | 0, _ :: _ => by simp [parts]
  | f + 1, c :: r => by
    have h1 := part2_lt c r
    have h2 := parts_len f (part2 (c :: r))
    rw [parts]; simp; omega
theorem fields_len (o : Ord) (l : Bs) : (fields o l).length ≤ l.length + 1 := by
  unfold fields
  split
  · exact Nat.le_succ_of_le (parts_len _ _)
  · exact split_len _ _
theorem bt_app (a b : Bs) : Ln.bt (a ++ b) = Ln.bt a ++ Ln.bt b := by
  unfold Ln.bt
  apply ByteArray.ext
  simp
/-- one step of the loop -/
theorem join_go (b : Bs) (L : List Bs) (k : Nat) (x : Bs) (h : L[k]? = some x) : (k = 0 → Ln.bt (join b (L.take (k + 1))) = Ln.bt (join b (L.take k)) ++ Ln.bt x) ∧ (0 < k → Ln.bt (join b (L.take (k + 1))) = (Ln.bt (join b (L.take k)) ++ Ln.bt b) ++ Ln.bt x) := by
  obtain ⟨hl, rfl⟩ := List.getElem?_eq_some_iff.1 h
  rw [join_more b L k hl]
  constructor
  · intro h0; subst h0; simp [join]; rw [← bt_app]; rfl
  · intro h0; rw [if_neg (by omega), bt_app, bt_app]
end Go.Proofs.YtjfjhpakkflceaaGreatDoor.Ky

/- What the document's Key answers. -/
namespace Go.Proofs.YtjfjhpakkflceaaGreatDoor.Ky
open Go.RowKit Go.Shelf

attribute [local go_sem] Oper.semAt_some

theorem at_lt {W : World} {x i : Nat} {v : Value} (h : W.cell? ⟨x, i, none⟩ = some v) : x < W.heap.size := by
  by_cases hx : x < W.heap.size
  · exact hx
  · have h2 : W.heap[x]? = none := Array.getElem?_eq_none (by omega)
    simp [World.cell?, h2] at h
/-- a list of texts, to be read -/
def FL (W : World) (v : Value) (F : List Bs) : Prop := ∃ a cap, v = .slice a F.length cap ∧ F.length ≤ cap ∧ cap ≤ 9223372036854775807 ∧ ∀ m x, F[m]? = some x → ∃ g, a = some ⟨g, 0, none⟩ ∧ W.cell? ⟨g, m, none⟩ = some (.string (Ln.bt x))
theorem FL.of_row {W : World} {base : Nat} {v : Value} {F : List Bs} (h : W.ownsRow base 9 1 v F.length (Ln.strs1 F)) : FL W v F := by
  rcases h.2 with ⟨hv, h0⟩ | ⟨g, cap, cur, hv, hb, hg, hc1, hc2, hc3, hc4⟩
  · exact ⟨none, 0, by rw [hv, h0], by omega, by omega, fun m x hx => by rw [List.getElem?_eq_none (by omega)] at hx; cases hx⟩
  · refine ⟨some ⟨g, 0, none⟩, cap, hv, hc1, (by unfold maxLen at hc2; omega), fun m x hx => ⟨g, rfl, ?_⟩⟩
    rw [cell_of_row _ _ _ _ _ _ hg]
    obtain ⟨hi, rfl⟩ := List.getElem?_eq_some_iff.1 hx
    have h1 : (cur.toList.take (F.length * 1))[m]? = some (.string (Ln.bt F[m])) := by rw [hc4]; simp [Ln.strs1, List.getElem?_eq_getElem hi]
    rw [List.getElem?_take_of_lt (by omega)] at h1
    simpa using h1
theorem FL.below {W W' : World} {v : Value} {F : List Bs} (h : FL W v F) (b : Below W.heap.size W W') : FL W' v F := by
  obtain ⟨a, cap, h1, h2, h3, h4⟩ := h
  refine ⟨a, cap, h1, h2, h3, fun m x hx => ?_⟩
  obtain ⟨g, e, hc⟩ := h4 m x hx
  exact ⟨g, e, (b.cell (p := ⟨g, m, none⟩) (at_lt hc)).trans hc⟩
/-- string([]byte{c}) -/
theorem one_back (W : World) (c : UInt8) : (convert 98 9 (.slice (some ⟨W.heap.size, 0, none⟩) 1 1)).run Tryz.prog (W.alloc (.cells #[.int .u8 (c.toNat : Int)] 5)) = .ok (.string (Ln.bt [c])) (W.alloc (.cells #[.int .u8 (c.toNat : Int)] 5)) := by
  refine run_convert_bytes_back _ 98 9 5 ⟨W.heap.size, 0, none⟩ 1 [c] Tryz.underlying98 Tryz.underlying5 Tryz.underlying9 ?_
  intro j hj
  simp at hj
  subst hj
  simp [Addr.add]
theorem btw_zero {o : Ord} (h : o.sep = 0) : btw o = [] := by unfold btw; rw [if_pos h]
theorem btw_one {o : Ord} (h : o.sep ≠ 0) : btw o = [o.sep] := by unfold btw; rw [if_neg h]
theorem sep_int (c : UInt8) : c ≠ 0 ↔ ¬ (c.toNat : Int) = 0 := by
  constructor
  · intro h h'; exact h (UInt8.toNat_inj.1 (by rw [show (0 : UInt8).toNat = 0 from rfl]; omega))
  · intro h h'; exact h (by rw [h']; rfl)

set_option maxRecDepth 100000 in
set_option maxHeartbeats 600000 in
theorem rkey_any (o : Ord) (s : ByteArray) (w : World) (hs : s.size ≤ 1073741000) :
    Calls Tryz.prog 93 #[ov o, .string s] w fun e w' => e = .returned (.string (Ln.bt (key o s.data.toList))) ∧ Below w.heap.size w w' := by
  have CK := hide (fun W => rcheck_any o W)
  unfold ov at CK ⊢
  have p0 := hide (OR.new w o)
  have B0 : Hid (Below w.heap.size w (w.alloc (.cells #[.bool o.num, .bool o.fold, .bool o.bls, .bool o.rev, .int .i64 o.fr, .int .i64 o.«to», .int .u8 (o.sep.toNat : Int)] 23))) := (Below.refl _ _).alloc (Nat.le_refl _) _
  cases hok : okO o
  · rw [hok] at CK
    have hk : key o s.data.toList = [] := by unfold key; rw [hok]; rfl
    rw [hk]
    clear hok hk
    go_enter Tryz.func93, Tryz.ntmps93
    go_wp2_with fail
    refine (unhide CK _).mono ?_
    rintro e w1 ⟨rfl, b1⟩
    go_wp2_with fail
    go_ret
    exact ⟨rfl, (unhide B0).trans (b1.mono (unhide B0).size)⟩
  · rw [hok] at CK
    by_cases hfr : o.fr = 0
    · have hk : key o s.data.toList = s.data.toList := by unfold key; rw [hok]; simp [hfr]
      have hs2 : Ln.bt s.data.toList = s := rfl
      rw [hk, hs2]
      have HFR := hide hfr
      clear hok hk hs2 hfr
      go_enter Tryz.func93, Tryz.ntmps93
      go_wp2_with fail
      refine (unhide CK _).mono ?_
      rintro e w1 ⟨rfl, b1⟩
      have p1 := hide ((unhide p0).below b1)
      obtain ⟨d0, d1, d2, d3, d4, d5, d6⟩ := (unhide p1).cells
      have hfr := unhide HFR
      clear p0 p1
      go_wp2_with fail
      go_ret
      exact ⟨rfl, (unhide B0).trans (b1.mono (unhide B0).size)⟩
    · have hpos : 0 < o.fr := by have := hok; unfold okO at this; simp at this; omega
      have hmx : o.fr ≤ 1000 := by have := hok; unfold okO at this; simp at this; omega
      obtain ⟨L, hL1, hL2, hL3, hL4⟩ := key_steps (s := s.data.toList) hok hpos
      rw [hL1]
      obtain ⟨f, hf⟩ : ∃ f : Nat, o.fr = (f : Int) := ⟨o.fr.toNat, by omega⟩
      rw [hf] at hL3 hL4
      have HL2 : Hid ((join (btw o) L).length ≤ s.size) := hL2
      have HL3 := hide hL3
      have HL4 := hide hL4
      have CP := hide (fun W => rparts_any s W hs)
      have CF := hide (fun W => Ln.refFields_any s o.sep.toNat W hs)
      have hFP : Hid (o.sep = 0 → fields o s.data.toList = partsOf s.data.toList) := fun h => by unfold fields; rw [if_pos h]; rfl
      have hFF : Hid (o.sep ≠ 0 → Ln.fieldsL o.sep.toNat s.data.toList = fields o s.data.toList) := fun h => (sep_fields h _).1
      have hf1 : 1 ≤ f := by omega
      have hf2 : f ≤ 1000 := by omega
      have HFR := hide hf
      clear hL1 hL2 hL3 hL4 hok hmx hf hfr hpos
      go_enter Tryz.func93, Tryz.ntmps93
      go_wp2_with fail
      refine (unhide CK _).mono ?_
      rintro e w1 ⟨rfl, b1⟩
      have p1 := hide ((unhide p0).below b1)
      have B1 := hide ((unhide B0).trans (b1.mono (unhide B0).size))
      clear p0 B0 b1 CK
      obtain ⟨d0, d1, d2, d3, d4, d5, d6⟩ := (unhide p1).cells
      rw [unhide HFR] at d4
      have hfr0 : ((f : Int) == 0) = false := by simp; omega
      go_wp2_with fail
      refine (unhide CP _).mono ?_
      rintro e w2 ⟨v2, rfl, O2, b2⟩
      have F2 := hide (FL.of_row O2)
      have p2 := hide ((unhide p1).below b2)
      have B2 := hide ((unhide B1).trans (b2.mono (unhide B1).size))
      clear p1 B1 b2 CP O2 d0 d1 d2 d3 d4 d5 d6
      obtain ⟨d0, d1, d2, d3, d4, d5, d6⟩ := (unhide p2).cells
      obtain ⟨z, hz⟩ : ∃ z, z = decide (o.sep ≠ 0) := ⟨_, rfl⟩
      have hz2 : ((o.sep.toNat : Int) != 0) = z := by rw [hz, Bool.eq_iff_iff]; simp only [bne_iff_ne, decide_eq_true_eq]; exact (sep_int _).symm
      have HZ := hide hz
      clear hz
      obtain ⟨F, hF⟩ : ∃ F, F = fields o s.data.toList := ⟨_, rfl⟩
      have HF := hide hF
      clear hF
      obtain ⟨T, hT⟩ : ∃ T, T = Ln.bt (btw o) := ⟨_, rfl⟩
      have HT := hide hT
      clear hT
      obtain ⟨av, nv, cv, rfl⟩ : ∃ a n c, v2 = .slice a n c := by obtain ⟨a, c, h, _⟩ := unhide F2; exact ⟨_, _, _, h⟩
      go_upto_if 20 with fail
      go_cut [5, 6] (fun v5 v6 wx => v6 = .string T ∧ Hid (FL wx v5 F) ∧ Hid (OR wx w.heap.size o) ∧ Hid (Below w.heap.size w wx))
      case first =>
        have hz := unhide HZ
        clear HZ
        cases z
        · have hs0 : o.sep = 0 := by simpa using hz
          have e1 : T = { data := #[] } := by rw [unhide HT, btw_zero hs0]; rfl
          have e2 : F = partsOf s.data.toList := by rw [unhide HF]; exact unhide hFP hs0
          rw [← e2] at F2
          have E1 := hide e1
          clear hz hs0 e1 e2 HT HF hFP hFF
          go_wp2_with fail
          go_meet
          exact ⟨by rw [unhide E1], F2, p2, B2⟩
        · have hs0 : o.sep ≠ 0 := by simpa using hz
          have e1 : T = Ln.bt [o.sep] := by rw [unhide HT, btw_one hs0]
          have CF2 := hide (unhide CF w2)
          rw [unhide hFF hs0, ← unhide HF] at CF2
          have HCV := hide (fun W => one_back W o.sep)
          rw [← e1] at HCV
          clear hz hs0 e1 HT HF hFP hFF CF
          go_wp2_with fail
          refine (unhide CF2).mono ?_
          rintro e w3 ⟨v3, rfl, O3, b3⟩
          have F3 := hide ((FL.of_row O3).below ((Below.refl _ w3).alloc (Nat.le_refl _) (.cells #[.int .u8 (o.sep.toNat : Int)] 5)))
          have p3 := hide (((unhide p2).below b3).alloc (.cells #[.int .u8 (o.sep.toNat : Int)] 5))
          have B3 := (unhide B2).trans (b3.mono (unhide B2).size)
          have B4 := hide (B3.alloc B3.size (.cells #[.int .u8 (o.sep.toNat : Int)] 5))
          have hcv := unhide HCV w3
          obtain ⟨q0, q1, q2, q3, q4, q5, q6⟩ := ((unhide p2).below b3).cells
          clear HCV b3 B3 O3 F2 p2 B2 d0 d1 d2 d3 d4 d5 d6
          go_wp2_with fail
          go_meet
          exact ⟨rfl, F3, p3, B4⟩
      case rest =>
        obtain ⟨rfl, F5, p5, B5⟩ := hcut
        clear d0 d1 d2 d3 d4 d5 d6 p2 B2 F2 hz2 HZ CF hFP hFF hfr0
        obtain ⟨d0, d1, d2, d3, d4, d5, d6⟩ := (unhide p5).cells
        rw [unhide HFR] at d4
        obtain ⟨a5, cap5, rfl, hc1, hc2, hc3⟩ := unhide F5
        have HC3 := hide hc3
        have hFl : F.length ≤ s.size + 1 := by rw [unhide HF]; exact fields_len _ _
        rw [← unhide HF] at HL3 HL4
        clear hc3 F5 p5 HFR HF
        have H0 : Hid ({ data := #[] } = Ln.bt (join (btw o) (L.take 0))) := by show _ = _; rw [List.take_zero]; rfl
        go_wp2_with fail
        go_loopg [7, 8] L.length (fun g v7 v8 wr => wc = wr ∧ ∃ (k n : Nat) (X : ByteArray), k ≤ L.length ∧ g = L.length - k ∧ v8 = .int .i64 n ∧ Hid (n = f + k) ∧ v7 = .string X ∧ X.size ≤ s.size ∧ Hid (X = Ln.bt (join (btw o) (L.take k))))
        case atStart => exact ⟨rfl, 0, f, { data := #[] }, Nat.zero_le _, rfl, rfl, rfl, rfl, Nat.zero_le _, H0⟩
        case round =>
          obtain ⟨rfl, k, n, X, hk, rfl, rfl, hn, rfl, hX, hXe⟩ := hrel
          clear H0
          have h3 := unhide HL3 k n (by have := unhide hn; omega)
          by_cases hkl : k < L.length
          · obtain ⟨c1, c2⟩ := h3.1 hkl
            obtain ⟨m, hm⟩ : ∃ m : Nat, (n : Int) - 1 = (m : Int) := ⟨n - 1, by have := unhide hn; omega⟩
            have h4 := unhide HL4 k m hkl (by have := unhide hn; omega)
            obtain ⟨x, hx⟩ : ∃ x, L[k]? = some x := ⟨L[k], List.getElem?_eq_getElem hkl⟩
            rw [hx] at h4
            obtain ⟨g5, rfl, hcell⟩ := unhide HC3 m x h4
            have hml : (m : Int) < (F.length : Int) := by omega
            have hstep := join_go (btw o) L k x hx
            rw [← unhide hXe, ← unhide HT] at hstep
            have hsz : (Ln.bt (join (btw o) (L.take (k + 1)))).size ≤ s.size := Nat.le_trans (ln_join (btw o) L (k + 1)) (unhide HL2)
            have hn1 : n + 1 ≤ 1073742000 := by
              have := (List.getElem?_eq_some_iff.1 h4).1
              omega
            generalize Ln.bt x = Y at *
            generalize hR : Ln.bt (join (btw o) (L.take (k + 1))) = R at *
            have HR := hide hR
            have HST := hide hstep
            have hn2 : Hid (n + 1 = f + (k + 1)) := by have := unhide hn; show _ = _; omega
            have hkn : (k = 0 ∧ ¬ (f : Int) < (n : Int)) ∨ (0 < k ∧ (f : Int) < (n : Int)) := by have := unhide hn; omega
            clear hR hstep h3 h4 hx HL3 HL4 HC3 hXe hn HL2 HT
            have hto : ((o.«to» == 0) = true) ∨ ((o.«to» == 0) = false ∧ (n : Int) ≤ o.«to») := by
              by_cases h : o.«to» = 0
              · exact .inl (by simp [h])
              · rcases c2 with c2 | c2
                · exact absurd c2 h
                · exact .inr ⟨by simpa using h, c2⟩
            clear c2
            rcases hkn with ⟨hk0, hkn⟩ | ⟨hk0, hkn⟩
            · obtain rfl : R = X ++ Y := (unhide HST).1 hk0
              have hxy : X.size + Y.size ≤ s.size := by have := hsz; rw [ByteArray.size_append] at this; exact this
              clear HST hk0
              rcases hto with hto | ⟨hto, c3⟩
              all_goals
                go_wp2_with fail
                go_roundg (L.length - (k + 1))
                case measure => omega
                case rel => exact ⟨rfl, k + 1, n + 1, X ++ Y, by omega, rfl, by go_num, hn2, rfl, hsz, (unhide HR).symm⟩
            · obtain rfl : R = X ++ T ++ Y := (unhide HST).2 hk0
              have hxy : X.size + T.size + Y.size ≤ s.size := by have := hsz; rw [ByteArray.size_append, ByteArray.size_append] at this; exact this
              clear HST hk0
              rcases hto with hto | ⟨hto, c3⟩
              all_goals
                go_wp2_with fail
                go_roundg (L.length - (k + 1))
                case measure => omega
                case rel => exact ⟨rfl, k + 1, n + 1, X ++ T ++ Y, by omega, rfl, by go_num, hn2, rfl, hsz, (unhide HR).symm⟩
          · obtain rfl : k = L.length := by omega
            have hXf : X = Ln.bt (join (btw o) L) := by rw [unhide hXe, List.take_length]
            have HXF := hide hXf
            have hto : ¬ (n : Int) ≤ (F.length : Int) ∨ ((n : Int) ≤ (F.length : Int) ∧ (o.«to» == 0) = false ∧ ¬ (n : Int) ≤ o.«to») := by
              by_cases h1 : (n : Int) ≤ (F.length : Int)
              · right
                have h2 : ¬ (o.«to» = 0 ∨ (n : Int) ≤ o.«to») := fun h => hkl (h3.2 ⟨h1, h⟩)
                exact ⟨h1, by simp; omega, by omega⟩
              · exact .inl h1
            clear h3 HL3 HL4 HC3 hXe hn HL2 HT hXf hkl
            rcases hto with c1 | ⟨c1, hto, c3⟩
            all_goals
              go_wp2_with fail
              go_ret
              exact ⟨by rw [← unhide HXF]; rfl, unhide B5⟩
end Go.Proofs.YtjfjhpakkflceaaGreatDoor.Ky

/- What the document's run, Of, bytes and Number answer. -/
namespace Go.Proofs.YtjfjhpakkflceaaGreatDoor.Ky
open Go.RowKit Go.Shelf

attribute [local go_sem] Oper.semAt_some

set_option maxHeartbeats 400000 in
theorem run_any (s : ByteArray) (a : Nat) (w : World) (h : a ≤ s.size) (hs : s.size ≤ 1073741824) :
    Calls Tryz.prog 152 #[.string s, .int .i64 (a : Int)] w fun e w' => e = .returned (.string (Ln.bt ((s.data.toList.drop a).takeWhile dg))) ∧ w' = w := by
  obtain ⟨n, hn⟩ : ∃ n, n = upto dg s.data.toList a := ⟨_, rfl⟩
  have hnl := upto_le dg s.data.toList a h
  rw [← hn] at hnl
  have hnl2 : n ≤ s.size := hnl.2
  have hnl1 : a ≤ n := hnl.1
  have e1 : Ln.bt ((s.data.toList.drop a).takeWhile dg) = s.extract a n := by
    have := upto_take dg s.data.toList a
    rw [← hn] at this
    rw [Ln.bt_extract, this]
  rw [e1]
  have HN := hide hn
  clear e1 hn hnl
  go_enter Tryz.func152, Tryz.ntmps152
  go_wp2_with fail
  go_loopw [5] (fun i wr => ∃ k : Nat, a ≤ k ∧ k ≤ s.size ∧ i = .int .i64 k ∧ Hid (n = upto dg s.data.toList k) ∧ wr = w) (fun i _ => s.size - (intOf i).toNat)
  case atStart => exact ⟨a, Nat.le_refl _, h, rfl, HN, rfl⟩
  case round =>
    clear HN
    obtain ⟨k, hak, hk, rfl, hu, rfl⟩ := hrel
    by_cases hlt : k < s.size
    · have hlt' : (k : Int) < (s.size : Int) := by omega
      cases hp : dg s[k]
      · have hu2 := (unhide hu).trans (upto_stop hlt hp)
        clear hu
        subst hu2
        rw [dg_eq] at hp
        rcases (show ¬ (48 : Int) ≤ (s[n].toNat : Int) ∨ ((48 : Int) ≤ (s[n].toNat : Int) ∧ ¬ (s[n].toNat : Int) ≤ 57) by simp at hp; omega) with h1 | ⟨h1, h2⟩
        · clear hp
          go_wp2_with fail
          go_ret
          exact ⟨rfl, rfl⟩
        · clear hp
          go_wp2_with fail
          go_ret
          exact ⟨rfl, rfl⟩
      · have hu2 := hide ((unhide hu).trans (upto_step hlt hp))
        rw [dg_eq] at hp
        have h1 : (48 : Int) ≤ (s[k].toNat : Int) := by simp at hp; omega
        have h2 : (s[k].toNat : Int) ≤ 57 := by simp at hp; omega
        clear hp hu
        go_wp2_with fail
        go_roundw
        case rel => exact ⟨k + 1, by omega, by omega, by go_num, hu2, trivial⟩
        case measure => simp [intOf]; omega
    · have hlt' : ¬ (k : Int) < (s.size : Int) := by omega
      have hu2 := (unhide hu).trans (upto_end (by omega))
      clear hu
      subst hu2
      go_wp2_with fail
      go_ret
      exact ⟨rfl, rfl⟩

/-- a < b, a > b: by cmpL -/
theorem bytes_any (a b : ByteArray) (w : World) :
    Calls Tryz.prog 95 #[.string a, .string b] w fun e w' => e = .returned (.int .i64 (cmpL a.data.toList b.data.toList)) ∧ w' = w := by
  have h1 := less_eq a.data.toList b.data.toList
  have h2 : (a.data.toList == b.data.toList) = decide (cmpL a.data.toList b.data.toList = 0) := by
    rw [Bool.eq_iff_iff]; simp [cmpL_zero]
  rw [← Go.ByteArray.toList_eq, ← Go.ByteArray.toList_eq] at h1 h2 ⊢
  have hr := good_cmpL.rg a.toList b.toList
  generalize cmpL a.toList b.toList = x at *
  rcases hr with rfl | rfl | rfl
  all_goals
    simp only [Int.reduceNeg, Int.reduceEq, decide_true, decide_false] at h1 h2
    go_enter Tryz.func95, Tryz.ntmps95
    go_wp2_with fail
    go_ret
    exact ⟨rfl, rfl⟩
end Go.Proofs.YtjfjhpakkflceaaGreatDoor.Ky

/- What the document's Of answers. -/
namespace Go.Proofs.YtjfjhpakkflceaaGreatDoor.Ky
open Go.RowKit Go.Shelf

attribute [local go_sem] Oper.semAt_some

/-! ### a number, byte by byte -/
def isAt (l : Bs) (a : Nat) (c : UInt8) : Bool := decide (l[a]? = some c)
theorem cut1_at (c : UInt8) (l : Bs) (a : Nat) : cut1 c (l.drop a) = (l.drop (if isAt l a c then a + 1 else a), isAt l a c) := by
  unfold isAt
  by_cases h : a < l.length
  · rw [List.drop_eq_getElem_cons h, List.getElem?_eq_getElem h]
    unfold cut1
    by_cases hc : l[a] = c
    · simp [hc]
    · simp only [if_neg hc, Option.some.injEq, decide_eq_false hc]
      rw [if_neg (by simp), List.drop_eq_getElem_cons h]
  · rw [List.getElem?_eq_none (by omega)]
    simp [List.drop_eq_nil_of_le (show l.length ≤ a by omega), cut1]
def at1 (s : Bs) : Nat := upto bl s 0
def at2 (s : Bs) : Nat := if isAt s (at1 s) 45 then at1 s + 1 else at1 s
def w0 (s : Bs) : Bs := (s.drop (at2 s)).takeWhile dg
def at3 (s : Bs) : Nat := at2 s + (w0 s).length
def p0 (s : Bs) : Bs := if isAt s (at3 s) 46 then (s.drop (at3 s + 1)).takeWhile dg else []
theorem of_eq (s : Bs) : decOf s = ⟨if noughts (w0 s) = [] ∧ behind (p0 s) = [] then 0 else if isAt s (at1 s) 45 then -1 else 1, noughts (w0 s), behind (p0 s)⟩ := by
  have e1 : s.dropWhile bl = s.drop (at1 s) := by have := upto_drop bl s 0; rw [List.drop_zero] at this; exact this.symm
  have e3 : (s.drop (at2 s)).dropWhile dg = s.drop (at3 s) := (upto_drop dg s (at2 s)).symm
  rw [dec_cut, e1, cut1_at]
  simp only
  have e2 : s.drop (if isAt s (at1 s) 45 = true then at1 s + 1 else at1 s) = s.drop (at2 s) := rfl
  rw [e2, unsigned_cut, e3, cut1_at]
  simp only
  have e4 : (if isAt s (at3 s) 46 = true then (s.drop (if isAt s (at3 s) 46 = true then at3 s + 1 else at3 s)).takeWhile dg else []) = p0 s := by
    unfold p0; split <;> rfl
  rw [e4]; rfl
theorem isAt_le {l : Bs} {a : Nat} {c : UInt8} (h : isAt l a c = true) : a < l.length := by
  unfold isAt at h
  simp only [decide_eq_true_eq] at h
  exact (List.getElem?_eq_some_iff.1 h).1
/-- three ways -/
theorem isAt_ways (s : ByteArray) (a : Nat) (c : UInt8) (d : Int) (hd : (c.toNat : Int) = d) : (isAt s.data.toList a c = true ∧ (a : Int) < s.size ∧ ∃ h : a < s.size, (s[a].toNat : Int) = d) ∨ (isAt s.data.toList a c = false ∧ ((a : Int) < s.size ∧ ∃ h : a < s.size, ¬ (s[a].toNat : Int) = d)) ∨ (isAt s.data.toList a c = false ∧ ¬ (a : Int) < s.size) := by
  subst hd
  unfold isAt
  by_cases h : a < s.size
  · have hl : a < s.data.toList.length := h
    have e : s.data.toList[a] = s[a] := rfl
    rw [List.getElem?_eq_getElem hl, e]
    by_cases hc : s[a] = c
    · exact .inl ⟨by simp [hc], by omega, h, by rw [hc]⟩
    · exact .inr (.inl ⟨by simp [hc], by omega, h, fun q => hc (UInt8.toNat_inj.1 (by omega))⟩)
  · have hl : ¬ a < s.data.toList.length := h
    exact .inr (.inr ⟨by rw [List.getElem?_eq_none (by omega)]; simp, by omega⟩)
theorem at_le (s : Bs) : at1 s ≤ s.length ∧ at2 s ≤ s.length ∧ at3 s ≤ s.length := by
  have h1 : at1 s ≤ s.length := (upto_le bl s 0 (Nat.zero_le _)).2
  have h2 : at2 s ≤ s.length := by
    unfold at2; split
    · rename_i h; exact isAt_le h
    · exact h1
  exact ⟨h1, h2, (upto_le dg s (at2 s) h2).2⟩

theorem noughts_ways (X : ByteArray) : (noughts X.data.toList = X.data.toList ∧ ((X.size : Int) = 0 ∨ ((0 : Int) < X.size ∧ ∃ h : 0 < X.size, ¬ (X[0].toNat : Int) = 48))) ∨ ((0 : Int) < X.size ∧ (∃ h : 0 < X.size, (X[0].toNat : Int) = 48) ∧ noughts (X.extract 1 X.size).data.toList = noughts X.data.toList) := by
  by_cases h : 0 < X.size
  · have hl : 0 < X.data.toList.length := h
    have e : X.data.toList = X[0] :: X.data.toList.drop 1 := List.drop_eq_getElem_cons (l := X.data.toList) (i := 0) hl
    have e2 : (X.extract 1 X.size).data.toList = X.data.toList.drop 1 := by rw [← Ln.bt_drop']; rfl
    by_cases hc : X[0] = 48
    · exact .inr ⟨by omega, ⟨h, by rw [hc]; rfl⟩, by have q := congrArg noughts e; rw [hc, noughts_step] at q; rw [e2, q]⟩
    · exact .inl ⟨by rw [e]; exact noughts_stop _ hc, .inr ⟨by omega, h, fun q => hc (UInt8.toNat_inj.1 (by rw [show (48 : UInt8).toNat = 48 from rfl]; omega))⟩⟩
  · have e : X.data.toList = [] := List.eq_nil_of_length_eq_zero (by have : X.data.toList.length = X.size := rfl; omega)
    exact .inl ⟨by rw [e]; rfl, .inl (by omega)⟩
theorem behind_ways (X : ByteArray) : (behind X.data.toList = X.data.toList ∧ ((X.size : Int) = 0 ∨ ((0 : Int) < X.size ∧ ∃ h : X.size - 1 < X.size, ¬ (X[X.size - 1].toNat : Int) = 48))) ∨ ((0 : Int) < X.size ∧ (∃ h : X.size - 1 < X.size, (X[X.size - 1].toNat : Int) = 48) ∧ behind (X.extract 0 (X.size - 1)).data.toList = behind X.data.toList) := by
  by_cases h : 0 < X.size
  · have h1 : X.size - 1 < X.size := by omega
    have hl : X.size - 1 < X.data.toList.length := h1
    have e : X.data.toList = X.data.toList.take (X.size - 1) ++ [X[X.size - 1]] := by
      have := List.take_succ_eq_append_getElem hl
      rw [List.take_of_length_le (by have : X.data.toList.length = X.size := rfl; omega)] at this
      exact this
    have e2 : (X.extract 0 (X.size - 1)).data.toList = X.data.toList.take (X.size - 1) := by
      have := Ln.bt_extract X 0 (X.size - 1)
      rw [this]; rfl
    by_cases hc : X[X.size - 1] = 48
    · exact .inr ⟨by omega, ⟨h1, by rw [hc]; rfl⟩, by rw [e2, ← behind_step, ← hc, ← e]⟩
    · exact .inl ⟨by rw [e]; exact behind_stop _ hc, .inr ⟨by omega, h1, fun q => hc (UInt8.toNat_inj.1 (by rw [show (48 : UInt8).toNat = 48 from rfl]; omega))⟩⟩
  · have e : X.data.toList = [] := List.eq_nil_of_length_eq_zero (by have : X.data.toList.length = X.size := rfl; omega)
    exact .inl ⟨by rw [e]; rfl, .inl (by omega)⟩
/-- the world while the number lies there -/
abbrev Z (w : World) (x : Int) (y z : ByteArray) : World := (w.alloc (.cells #[.int .i64 0, .string { data := #[] }, .string { data := #[] }] 192)).alloc (.cells #[.int .i64 x, .string y, .string z] 192)

theorem res_of (tmps : Array Value) (w : World) (x : Int) (y z : ByteArray) (ht : tmps.getD 2 undef = .pointer (some ⟨w.heap.size, 0, none⟩)) :
    (results Tryz.f138 tmps).run Tryz.prog ((w.alloc (.cells #[.int .i64 x, .string y, .string z] 192)).alloc (.cells #[.int .i64 x, .string y, .string z] 192)) = .ok (.agg #[.int .i64 x, .string y, .string z]) ((w.alloc (.cells #[.int .i64 x, .string y, .string z] 192)).alloc (.cells #[.int .i64 x, .string y, .string z] 192)) := by
  have r : ((w.alloc (.cells #[.int .i64 x, .string y, .string z] 192)).alloc (.cells #[.int .i64 x, .string y, .string z] 192)).heap[w.heap.size]? = some (.cells #[.int .i64 x, .string y, .string z] 192 (0, 0)) := (Below.heap_alloc _ _ _ (by simp)).trans (heap_alloc_new w _)
  generalize ((w.alloc (.cells #[.int .i64 x, .string y, .string z] 192)).alloc (.cells #[.int .i64 x, .string y, .string z] 192)) = W at *
  have h0 : W.cell? ⟨w.heap.size, 0, none⟩ = some (.int .i64 x) := cell_of_row _ _ 0 _ _ _ r
  have h1 : W.cell? ⟨w.heap.size, 1, none⟩ = some (.string y) := cell_of_row _ _ 1 _ _ _ r
  have h2 : W.cell? ⟨w.heap.size, 2, none⟩ = some (.string z) := cell_of_row _ _ 2 _ _ _ r
  rw [Array.getD_eq_getD_getElem?] at ht
  simp [results, Tryz.f138, go_sem, ht, h0, h1, h2]

set_option maxRecDepth 100000 in
set_option maxHeartbeats 400000 in
theorem of_any (s : ByteArray) (w : World) (hs : s.size ≤ 1073741824) :
    Calls Tryz.prog 138 #[.string s] w fun e w' => e = .returned (.agg #[.int .i64 (decOf s.data.toList).sign, .string (Ln.bt (decOf s.data.toList).whole), .string (Ln.bt (decOf s.data.toList).part)]) ∧ Below w.heap.size w w' := by
  have C : Hid (∀ (c : UInt8) (w : World), Calls Tryz.prog 139 #[.int .u8 (c.toNat : Int)] w fun e w' => e = .returned (.bool (bl c)) ∧ w' = w) := rblank_any
  have hle := at_le s.data.toList
  rw [of_eq]
  obtain ⟨n1, hn1⟩ : ∃ n, n = at1 s.data.toList := ⟨_, rfl⟩
  obtain ⟨n2, hn2⟩ : ∃ n, n = at2 s.data.toList := ⟨_, rfl⟩
  obtain ⟨n3, hn3⟩ : ∃ n, n = at3 s.data.toList := ⟨_, rfl⟩
  obtain ⟨A, hA⟩ : ∃ A, A = Ln.bt (w0 s.data.toList) := ⟨_, rfl⟩
  obtain ⟨B, hB⟩ : ∃ B, B = Ln.bt (p0 s.data.toList) := ⟨_, rfl⟩
  obtain ⟨mi, hmi⟩ : ∃ m, m = isAt s.data.toList n1 45 := ⟨_, rfl⟩
  obtain ⟨pt, hpt⟩ : ∃ m, m = isAt s.data.toList n3 46 := ⟨_, rfl⟩
  obtain ⟨sg, hsg⟩ : ∃ x : Int, x = if mi = true then -1 else 1 := ⟨_, rfl⟩
  have l1 : n1 ≤ s.size := by rw [hn1]; exact hle.1
  have l2 : n2 ≤ s.size := by rw [hn2]; exact hle.2.1
  have l3 : n3 ≤ s.size := by rw [hn3]; exact hle.2.2
  have l4 : (n2 : Int) + (A.size : Int) = (n3 : Int) := by rw [hn2, hn3, hA]; show (at2 s.data.toList : Int) + ((w0 s.data.toList).length : Nat) = _; unfold at3; omega
  have HM : Hid (n2 = if mi = true then n1 + 1 else n1) := by show _ = _; rw [hn2, hmi, hn1]; rfl
  have W1 := isAt_ways s n1 45 45 rfl
  have W2 := isAt_ways s n3 46 46 rfl
  rw [← hmi] at W1
  rw [← hpt] at W2
  have HW1 := hide W1
  have HW2 := hide W2
  have R1 : Hid (∀ W, Calls Tryz.prog 152 #[.string s, .int .i64 (n2 : Int)] W fun e w' => e = .returned (.string A) ∧ w' = W) := fun W => by rw [hA]; unfold w0; rw [← hn2]; exact run_any s n2 W l2 hs
  have R2 : Hid (pt = true → ∀ W, Calls Tryz.prog 152 #[.string s, .int .i64 ((n3 : Int) + 1)] W fun e w' => e = .returned (.string B) ∧ w' = W) := fun h W => by
    have h1 : n3 < s.size := by rw [hpt] at h; exact isAt_le h
    have h2 : B = Ln.bt ((s.data.toList.drop (n3 + 1)).takeWhile dg) := by rw [hB]; unfold p0; rw [← hn3, ← hpt, h]; rfl
    rw [h2]; exact run_any s (n3 + 1) W h1 hs
  have HP : Hid (pt = false → B = { data := #[] }) := fun h => by rw [hB]; unfold p0; rw [← hn3, ← hpt, h]; rfl
  have HA : Hid (w0 s.data.toList = A.data.toList) := by show _ = _; rw [hA]; rfl
  have HB : Hid (p0 s.data.toList = B.data.toList) := by show _ = _; rw [hB]; rfl
  have zB : B.size ≤ s.size := by
    rw [hB]
    show (p0 s.data.toList).length ≤ s.data.toList.length
    unfold p0
    split
    · exact Nat.le_trans (List.takeWhile_sublist _).length_le (by rw [List.length_drop]; omega)
    · exact Nat.zero_le _
  have HS : Hid ((if isAt s.data.toList (at1 s.data.toList) 45 = true then (-1 : Int) else 1) = sg) := by show _ = _; rw [hsg, hmi, hn1]
  have HSG := hide hsg
  rw [unhide HA, unhide HB, unhide HS]
  obtain ⟨U, hU⟩ : ∃ U, U = Ln.bt (noughts A.data.toList) := ⟨_, rfl⟩
  obtain ⟨V, hV⟩ : ∃ V, V = Ln.bt (behind B.data.toList) := ⟨_, rfl⟩
  have HU := hide hU
  have HV := hide hV
  have hq1 : Hid (noughts A.data.toList = U.data.toList) := by show _ = _; rw [hU]; rfl
  have hq2 : Hid (behind B.data.toList = V.data.toList) := by show _ = _; rw [hV]; rfl
  rw [unhide hq1, unhide hq2]
  obtain ⟨fs, hfs⟩ : ∃ fs : Int, fs = if U.data.toList = [] ∧ V.data.toList = [] then 0 else sg := ⟨_, rfl⟩
  rw [← hfs]
  have HF := hide hfs
  have eU : Ln.bt U.data.toList = U := rfl
  have eV : Ln.bt V.data.toList = V := rfl
  rw [eU, eV]
  clear hq1 hq2 hU hV hfs eU eV
  clear hmi hpt hA hB hn2 hn3 W1 W2 hsg HA HB HS hle
  go_enter Tryz.func138, Tryz.ntmps138
  go_upto_block 0 with fail
  have HN1 := hide hn1
  have hB0 : Hid (Below w.heap.size w (w.alloc (.cells #[.int .i64 0, .string { data := #[] }, .string { data := #[] }] 192))) := (Below.refl _ _).alloc (Nat.le_refl _) _
  clear hn1
  go_cut [3] (fun v wx => (w.alloc (.cells #[.int .i64 0, .string { data := #[] }, .string { data := #[] }] 192)) = wx ∧ v = .int .i64 (n1 : Int))
  case first =>
    go_wp2_with fail
    go_loopg [3] s.size (fun g v wx => (w.alloc (.cells #[.int .i64 0, .string { data := #[] }, .string { data := #[] }] 192)) = wx ∧ ∃ k : Nat, k ≤ s.size ∧ g = s.size - k ∧ v = .int .i64 k ∧ Hid (n1 = upto bl s.data.toList k))
    case atStart => exact ⟨rfl, 0, Nat.zero_le _, rfl, rfl, HN1⟩
    case round =>
      obtain ⟨rfl, k, hk, rfl, rfl, hu⟩ := hrel
      clear HN1
      by_cases hlt : k < s.size
      · have hlt' : (k : Int) < (s.size : Int) := by omega
        have HC := hide (unhide C s[k])
        cases hp : bl s[k]
        · rw [hp] at HC
          have hu2 := hide ((unhide hu).trans (upto_stop hlt hp))
          clear hp hu C
          go_wp2_with fail
          refine (unhide HC _).mono ?_
          rintro e w' ⟨rfl, hw⟩
          rw [hw]
          go_wp2_with fail
          go_meet
          exact ⟨rfl, by rw [unhide hu2]⟩
        · rw [hp] at HC
          have hu2 := hide ((unhide hu).trans (upto_step hlt hp))
          clear hp hu C
          go_wp2_with fail
          refine (unhide HC _).mono ?_
          rintro e w' ⟨rfl, hw⟩
          rw [hw]
          go_wp2_with fail
          go_roundg (s.size - (k + 1))
          case measure => omega
          case rel => exact ⟨rfl, k + 1, by omega, rfl, by go_num, hu2⟩
      · have hlt' : ¬ (k : Int) < (s.size : Int) := by omega
        have hu2 := hide ((unhide hu).trans (upto_end (by omega)))
        clear hu C
        go_wp2_with fail
        go_meet
        exact ⟨rfl, by rw [unhide hu2]⟩
  case rest =>
    obtain ⟨rfl, rfl⟩ := hcut
    clear C HN1
    go_upto_region 5 with fail
    go_cut [27] (fun v wx => Z w 1 { data := #[] } { data := #[] } = wx ∧ v = .bool mi)
    case first =>
      have hw := unhide HW1
      clear HW1 HW2 R1 R2 HP HM
      rcases hw with ⟨rfl, h1, h2, h3⟩ | ⟨rfl, h1, h2, h3⟩ | ⟨rfl, h1⟩
      all_goals
        go_wp2_with fail
        go_meet
        first | exact ⟨rfl, rfl⟩ | exact ⟨rfl, by simp [h3]⟩
    case rest =>
      obtain ⟨rfl, rfl⟩ := hcut
      go_upto_if 27 with fail
      go_cut [3] (fun v wx => Z w sg { data := #[] } { data := #[] } = wx ∧ v = .int .i64 (n2 : Int))
      case first =>
        have hm := unhide HM
        have hg := unhide HSG
        clear HM HSG HW1 HW2 R1 R2 HP
        cases mi
        · obtain rfl : n2 = n1 := by simpa using hm
          obtain rfl : sg = 1 := by simpa using hg
          clear hm hg
          go_wp2_with fail
          go_meet
          exact ⟨rfl, rfl⟩
        · obtain rfl : n2 = n1 + 1 := by simpa using hm
          obtain rfl : sg = -1 := by simpa using hg
          clear hm hg
          go_wp2_with fail
          go_meet
          exact ⟨rfl, by go_num⟩
      case rest =>
        obtain ⟨rfl, rfl⟩ := hcut
        clear HW1 HM HSG
        go_wp2_with fail
        refine (unhide R1 _).mono ?_
        rintro e w' ⟨rfl, hw⟩
        rw [hw]
        clear hw R1
        go_upto_region 10 with fail
        go_cut [49] (fun v wx => Z w sg A { data := #[] } = wx ∧ v = .bool pt)
        case first =>
          have hw := unhide HW2
          clear HW2 R2 HP
          rcases hw with ⟨rfl, h1, h2, h3⟩ | ⟨rfl, h1, h2, h3⟩ | ⟨rfl, h1⟩
          all_goals
            go_wp2_with fail
            go_meet
            first | exact ⟨rfl, rfl⟩ | exact ⟨rfl, by simp [h3]⟩
        case rest =>
          obtain ⟨rfl, rfl⟩ := hcut
          go_upto_if 49 with fail
          go_cut [3] (fun v wx => Z w sg A B = wx ∧ v = .int .i64 (n3 : Int))
          case first =>
            have hp := unhide HP
            have hr := unhide R2
            have l5 : pt = true → n3 < s.size := fun h => by
              rcases unhide HW2 with ⟨_, h1, _⟩ | ⟨h0, _⟩ | ⟨h0, _⟩
              · omega
              · rw [h0] at h; cases h
              · rw [h0] at h; cases h
            clear HP R2 HW2
            cases pt
            · obtain rfl := hp rfl
              clear hp hr l5
              go_wp2_with fail
              go_meet
              exact ⟨rfl, rfl⟩
            · have HR := hide (hr rfl)
              have l6 := l5 rfl
              clear hp hr l5
              go_wp2_with fail
              refine (unhide HR _).mono ?_
              rintro e w' ⟨rfl, hw⟩
              rw [hw]
              go_wp2_with fail
              go_meet
              exact ⟨rfl, rfl⟩
          case rest =>
            obtain ⟨rfl, rfl⟩ := hcut
            clear HW2 R2 HP
            have zA : A.size ≤ s.size := by omega
            go_upto_block 2 with fail
            go_cut [] (fun wx => Z w sg U B = wx)
            case first =>
              go_wp2_with fail
              go_loopg [] A.size (fun g wx => ∃ X : ByteArray, Z w sg X B = wx ∧ X.size ≤ A.size ∧ g = X.size ∧ Hid (U = Ln.bt (noughts X.data.toList)))
              case atStart => exact ⟨A, rfl, Nat.le_refl _, rfl, HU⟩
              case round =>
                obtain ⟨X, rfl, hX, rfl, hu⟩ := hrel
                have hw := noughts_ways X
                rcases hw with ⟨h0, h1 | ⟨h1, h2, h3⟩⟩ | ⟨h1, ⟨h2, h3⟩, h4⟩
                · obtain rfl : U = X := by rw [unhide hu, h0]; rfl
                  clear hu h0 HU
                  go_wp2_with fail
                  go_meet
                  exact rfl
                · obtain rfl : U = X := by rw [unhide hu, h0]; rfl
                  clear hu h0 HU
                  go_wp2_with fail
                  go_meet
                  exact rfl
                · have hu2 : Hid (U = Ln.bt (noughts (X.extract 1 X.size).data.toList)) := by show _ = _; rw [h4]; exact unhide hu
                  have hz : (X.extract 1 X.size).size = X.size - 1 := by simp
                  have HZ := hide hz
                  clear hu h4 HU hz
                  go_wp2_with fail
                  go_roundg (X.size - 1)
                  case measure => omega
                  case rel => exact ⟨X.extract 1 X.size, rfl, by rw [unhide HZ]; omega, (unhide HZ).symm, hu2⟩
            case rest =>
              obtain rfl := hcut
              go_upto_block 4 with fail
              go_cut [] (fun wx => Z w sg U V = wx)
              case first =>
                go_wp2_with fail
                go_loopg [] B.size (fun g wx => ∃ X : ByteArray, Z w sg U X = wx ∧ X.size ≤ B.size ∧ g = X.size ∧ Hid (V = Ln.bt (behind X.data.toList)))
                case atStart => exact ⟨B, rfl, Nat.le_refl _, rfl, HV⟩
                case round =>
                  obtain ⟨X, rfl, hX, rfl, hu⟩ := hrel
                  have hw := behind_ways X
                  rcases hw with ⟨h0, h1 | ⟨h1, h2, h3⟩⟩ | ⟨h1, ⟨h2, h3⟩, h4⟩
                  · obtain rfl : V = X := by rw [unhide hu, h0]; rfl
                    clear hu h0 HV HU
                    go_wp2_with fail
                    go_meet
                    exact rfl
                  · obtain rfl : V = X := by rw [unhide hu, h0]; rfl
                    clear hu h0 HV HU
                    have h5 : (V.size : Int) - 1 = ((V.size - 1 : Nat) : Int) := by omega
                    go_wp2_with fail
                    go_meet
                    exact rfl
                  · have hu2 : Hid (V = Ln.bt (behind (X.extract 0 (X.size - 1)).data.toList)) := by show _ = _; rw [h4]; exact unhide hu
                    have hz : (X.extract 0 (X.size - 1)).size = X.size - 1 := by simp
                    have HZ := hide hz
                    have h5 : (X.size : Int) - 1 = ((X.size - 1 : Nat) : Int) := by omega
                    clear hu h4 HV hz HU
                    go_wp2_with fail
                    go_roundg (X.size - 1)
                    case measure => omega
                    case rel => exact ⟨X.extract 0 (X.size - 1), rfl, by rw [unhide HZ]; omega, (unhide HZ).symm, hu2⟩
              case rest =>
                obtain rfl := hcut
                clear HU HV
                have hBB : Hid (∀ x y z : Value, Below w.heap.size w ((w.alloc (.cells #[x, y, z] 192)).alloc (.cells #[x, y, z] 192))) := fun x y z => ((Below.refl _ _).alloc (Nat.le_refl _) _).alloc (by simp) _
                have hf := unhide HF
                clear HF hB0
                have tU : U.toList = U.data.toList := ByteArray.toList_eq U
                have tV : V.toList = V.data.toList := ByteArray.toList_eq V
                cases hU0 : U.toList.isEmpty
                · obtain rfl : fs = sg := by rw [hf, if_neg]; rintro ⟨q, _⟩; rw [tU, q] at hU0; cases hU0
                  clear hf tU tV
                  go_wp2_with fail
                  exact bodyPost_ret (res_of _ w _ _ _ rfl) rfl ⟨rfl, unhide hBB _ _ _⟩
                · cases hV0 : V.toList.isEmpty
                  · obtain rfl : fs = sg := by rw [hf, if_neg]; rintro ⟨_, q⟩; rw [tV, q] at hV0; cases hV0
                    clear hf tU tV
                    go_wp2_with fail
                    exact bodyPost_ret (res_of _ w _ _ _ rfl) rfl ⟨rfl, unhide hBB _ _ _⟩
                  · obtain rfl : fs = 0 := by rw [hf, if_pos ⟨by rw [← tU]; exact List.isEmpty_iff.1 hU0, by rw [← tV]; exact List.isEmpty_iff.1 hV0⟩]
                    clear hf tU tV
                    go_wp2_with fail
                    exact bodyPost_ret (res_of _ w _ _ _ rfl) rfl ⟨rfl, unhide hBB _ _ _⟩
end Go.Proofs.YtjfjhpakkflceaaGreatDoor.Ky
