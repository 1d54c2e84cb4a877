/- What the document's Split and Fields answer: the same. -/
import Derived.Test.YtjfjhpakkflceaaDoorLnFields
import Derived.Test.YtjfjhpakkflceaaDoorTexts
namespace Go.Proofs.YtjfjhpakkflceaaDoor.Ln
open Go.RowKit Go.Shelf

theorem one_new' (w : World) (x : Value) (e : TypeId) : ∀ j u, [x][j]? = some u → (w.alloc (.cells #[x] e)).cell? ((⟨w.heap.size, 0, none⟩ : Addr).add j) = some u := by
  intro j u hj
  match j, hj with
  | 0, hj => simp at hj; subst hj; simp [Addr.add]
theorem one_one' (s : ByteArray) : ∀ u ∈ [Value.string s], u.oneCell' = true := by
  intro u hu; simp at hu; subst hu; rfl
theorem row_sl {W : World} {base : Nat} {e : TypeId} {size : Nat} {v : Value} {k : Nat} {xs : List Value} (h : W.ownsRow base e size v k xs) : ∃ a n c, v = .slice a n c := by
  rcases h.2 with ⟨hv, _⟩ | ⟨g, cap, cur, hv, _⟩ <;> exact ⟨_, _, _, hv⟩
theorem last_true {pre : List (List UInt8 × Bool)} (h : ∀ q ∈ pre, q.2 = true) : lastB pre = !pre.isEmpty ∧ lastT pre = true := by
  rcases List.eq_nil_or_concat pre with rfl | ⟨q, x, rfl⟩
  · exact ⟨rfl, rfl⟩
  · have := h x (by simp)
    simp [lastB, lastT, this]

theorem bt_drop' (s : ByteArray) (i : Nat) : bt (s.data.toList.drop i) = s.extract i s.size := by
  rw [bt_extract, List.take_of_length_le (by rw [List.length_drop]; exact Nat.le_refl _)]
/-- what has come, b bytes being read, the part that is under way beginning at a -/
structure PInv (p : UInt8 → Bool) (l : List UInt8) (a b : Nat) (pre : List (List UInt8 × Bool)) : Prop where
  split : parts p l = pre ++ parts p (l.drop a)
  clean : ∀ c ∈ (l.drop a).take (b - a), p c = false
  ends : ∀ q ∈ pre, q.2 = true
theorem PInv.start (p : UInt8 → Bool) (l : List UInt8) : PInv p l 0 0 [] := ⟨by simp, by simp, by simp⟩
theorem PInv.hit {p : UInt8 → Bool} {l : List UInt8} {a b : Nat} {pre : List (List UInt8 × Bool)} (h : PInv p l a b pre) (hab : a ≤ b) (hb : b < l.length) (hp : p l[b] = true) : PInv p l (b + 1) (b + 1) (pre ++ [((l.drop a).take (b - a), true)]) := by
  refine ⟨parts_go h.split hab hb h.clean hp, by simp, ?_⟩
  intro q hq
  rcases List.mem_append.1 hq with hq | hq
  · exact h.ends q hq
  · simp at hq; subst hq; rfl
theorem PInv.miss {p : UInt8 → Bool} {l : List UInt8} {a b : Nat} {pre : List (List UInt8 × Bool)} (h : PInv p l a b pre) (hab : a ≤ b) (hb : b < l.length) (hp : p l[b] = false) : PInv p l a (b + 1) pre :=
  ⟨h.split, take_more hab hb h.clean hp, h.ends⟩
theorem PInv.last {p : UInt8 → Bool} {l : List UInt8} {a b : Nat} {pre : List (List UInt8 × Bool)} (h : PInv p l a b pre) (hb : b = l.length) (ha : a < l.length) : parts p l = pre ++ [(l.drop a, false)] := by
  rw [h.split, parts_end (l.drop a)]
  · intro c hc
    refine h.clean c ?_
    rwa [List.take_of_length_le (by rw [List.length_drop]; omega)]
  · intro e
    have := congrArg List.length e
    rw [List.length_drop, List.length_nil] at this
    omega
theorem PInv.whole {p : UInt8 → Bool} {l : List UInt8} {a b : Nat} {pre : List (List UInt8 × Bool)} (h : PInv p l a b pre) (ha : l.length ≤ a) : parts p l = pre := by
  rw [h.split, List.drop_eq_nil_of_le ha, parts_nil, List.append_nil]
theorem PInv.len {p : UInt8 → Bool} {l : List UInt8} {a b : Nat} {pre : List (List UInt8 × Bool)} (h : PInv p l a b pre) : pre.length ≤ l.length := by
  have h1 := parts_len p l
  rw [h.split, List.length_append] at h1
  omega

theorem blank_any (c : Nat) (w : World) :
    Calls Tryd.prog 79 #[.int .u8 c] w fun e w' => e = .returned (.bool (decide (c = 32) || decide (c = 9))) ∧ w' = w := by
  obtain ⟨r, hr⟩ : ∃ r, r = (decide (c = 32) || decide (c = 9)) := ⟨_, rfl⟩
  rw [← hr]
  rcases (show c = 32 ∨ c = 9 ∨ (c ≠ 32 ∧ c ≠ 9) by omega) with rfl | rfl | ⟨h, h'⟩
  · obtain rfl : r = true := by rw [hr]; rfl
    clear hr
    go_enter Tryd.func79, Tryd.ntmps79
    go_wp2
    go_ret
    exact ⟨rfl, rfl⟩
  · obtain rfl : r = true := by rw [hr]; rfl
    clear hr
    go_enter Tryd.func79, Tryd.ntmps79
    go_wp2
    go_ret
    exact ⟨rfl, rfl⟩
  · have a1 : ((c : Int) == 32) = false := by simp; omega
    have a2 : ((c : Int) == 9) = false := by simp; omega
    obtain rfl : r = false := by rw [hr]; simp [h, h']
    clear hr
    go_enter Tryd.func79, Tryd.ntmps79
    go_wp2
    go_ret
    exact ⟨rfl, rfl⟩

theorem runsOf_len' (l : List (List UInt8 × Bool)) : (runsOf l).length ≤ l.length := by
  unfold runsOf; exact Nat.le_trans (List.length_filter_le _ _) (by simp)
/-- what the loop of the document's Fields has told: b bytes read, or all and the end -/
def FInv (p : UInt8 → Bool) (l : List UInt8) (tell : List (List UInt8 × Bool) → List (List UInt8)) (all : List (List UInt8)) (a b : Nat) (F : List (List UInt8)) : Prop :=
  (b ≤ l.length ∧ a ≤ b ∧ ∃ pre, PInv p l a b pre ∧ F = tell pre) ∨ (b = l.length + 1 ∧ F = all)

set_option maxRecDepth 100000 in
set_option maxHeartbeats 1000000 in
theorem refFields_blank (s : ByteArray) (w : World) (hs : s.size ≤ 1073741824) :
    Calls Tryd.prog 111 #[.string s, .int .u8 0] w fun e w' => ∃ v, e = .returned v ∧ w'.ownsRow w.heap.size 9 1 v (fieldsL 0 s.data.toList).length (strs1 (fieldsL 0 s.data.toList)) ∧ Below w.heap.size w w' := by
  obtain ⟨i0, hi, hz0, hz1, hz2⟩ := info_parts Tryd.infoStr
  have HBL : Hid (∀ (c : UInt8) (W : World), Calls Tryd.prog 79 #[.int .u8 c.toNat] W fun e w' => e = .returned (.bool (isBlank c)) ∧ w' = W) := fun c W => blank_any c.toNat W
  go_enter Tryd.func111, Tryd.ntmps111
  go_wp2_with fail
  go_loopw [5, 6, 7] (fun v vf vi wr => ∃ (a b : Nat) (F : List (List UInt8)), vf = .int .i64 a ∧ vi = .int .i64 b ∧ b ≤ s.size + 1 ∧ a ≤ s.size + 1 ∧ F.length ≤ 1073741824 ∧ Hid (FInv isBlank s.data.toList runsOf (fieldsL 0 s.data.toList) a b F) ∧ Hid (wr.ownsRow w.heap.size 9 1 v F.length (strs1 F)) ∧ Hid (Below w.heap.size w wr)) (fun _ _ vi _ => s.size + 1 - (intOf vi).toNat)
  case atStart => exact ⟨0, 0, [], rfl, rfl, Nat.zero_le _, Nat.zero_le _, by simp, .inl ⟨Nat.zero_le _, Nat.le_refl _, [], PInv.start _ _, rfl⟩, World.ownsRow_nil _ _ _ _, Below.refl _ _⟩
  case round =>
    obtain ⟨a, b, F, rfl, rfl, hbs, has, hFl, hinv, hO, hB⟩ := hrel
    have hsz := (unhide hB).size
    have h2 : s.data.toList.length = s.size := rfl
    have hrl : (fieldsL 0 s.data.toList).length ≤ s.size := by
      show (runsOf (parts isBlank s.data.toList)).length ≤ s.size
      exact Nat.le_trans (runsOf_len' _) (parts_len _ _)
    by_cases hle : b ≤ s.size
    · have hle' : (b : Int) ≤ (s.size : Int) := by omega
      obtain ⟨_, hab, pre, hP, rfl⟩ : b ≤ s.data.toList.length ∧ a ≤ b ∧ ∃ pre, PInv isBlank s.data.toList a b pre ∧ F = runsOf pre := by
        rcases unhide hinv with h | h
        · exact h
        · exfalso; omega
      have HP := hide hP
      clear hP hinv
      by_cases hlt : b < s.size
      · have hlt' : (b : Int) < (s.size : Int) := by omega
        have hll : b < s.data.toList.length := hlt
        cases hbl : isBlank s[b]
        · have C1 : Hid (∀ W : World, Calls Tryd.prog 79 #[.int .u8 s[b].toNat] W fun e w' => e = .returned (.bool false) ∧ w' = W) := fun W => by rw [← hbl]; exact unhide HBL s[b] W
          have hnx : Hid (FInv isBlank s.data.toList runsOf (fieldsL 0 s.data.toList) a (b + 1) (runsOf pre)) := .inl ⟨by omega, by omega, pre, (unhide HP).miss hab hll hbl, rfl⟩
          clear hbl HP h2
          obtain ⟨a1, n1, c1, rfl⟩ := row_sl (unhide hO)
          go_wp2_with fail
          refine (unhide C1 _).mono ?_
          rintro e w' ⟨rfl, rfl⟩
          go_wp2_with fail
          go_roundw
          case rel => exact ⟨a, b + 1, runsOf pre, rfl, by go_num, by omega, by omega, hFl, hnx, hO, hB⟩
          case measure => simp [intOf] <;> omega
        · have C1 : Hid (∀ W : World, Calls Tryd.prog 79 #[.int .u8 s[b].toNat] W fun e w' => e = .returned (.bool true) ∧ w' = W) := fun W => by rw [← hbl]; exact unhide HBL s[b] W
          have hP2 := (unhide HP).hit hab hll hbl
          by_cases hg : a < b
          · have hg' : (a : Int) < (b : Int) := by omega
            have hne : (s.data.toList.drop a).take (b - a) ≠ [] := by
              intro e
              have := congrArg List.length e
              rw [List.length_take, List.length_drop, List.length_nil] at this
              omega
            have hr := runsOf_snoc pre _ true hne
            have hnx : Hid (FInv isBlank s.data.toList runsOf (fieldsL 0 s.data.toList) (b + 1) (b + 1) (runsOf pre ++ [(s.data.toList.drop a).take (b - a)])) := .inl ⟨by omega, Nat.le_refl _, _, hP2, hr.symm⟩
            have hl2 : (runsOf pre ++ [(s.data.toList.drop a).take (b - a)]).length ≤ 1073741824 := by
              rw [← hr]
              have := hP2.len
              have := runsOf_len' (pre ++ [((s.data.toList.drop a).take (b - a), true)])
              omega
            have hl3 : (runsOf pre).length + 1 ≤ 1073741824 := by simpa using hl2
            clear hbl HP h2 hP2 hne hr
            obtain ⟨a0, n0, c0, hv0⟩ := row_sl (unhide hO)
            subst hv0
            go_wp2_with fail
            refine (unhide C1 _).mono ?_
            rintro e w' ⟨rfl, hww⟩
            subst hww
            go_wp2_with (at_builtin; refine wpList_append_own _ rfl _ _ 24 rfl w.heap.size 9 i0 _ 1 16 Tryd.underlying24 hi hz0 hz1 hz2 rfl (by decide) _ _ _ rfl ((unhide hO).alloc _) ⟨w'.heap.size, 0, none⟩ 1 1 [.string (s.extract a b)] rfl rfl (one_new' _ _ _) (one_one' _) (by unfold maxLen; omega) (by omega) (by simp; omega) ?_)
            intro v1 w1 hO1 hg1 _
            have hB1 : Hid (Below w.heap.size w w1) := ((unhide hB).alloc hsz _).grown hg1 (by simp; omega) (fun j ej => ((unhide hO).lt j ej).1)
            rw [bt_extract] at hO1
            have hO2 : Hid (w1.ownsRow w.heap.size 9 1 v1 (runsOf pre ++ [(s.data.toList.drop a).take (b - a)]).length (strs1 (runsOf pre ++ [(s.data.toList.drop a).take (b - a)]))) := by
              show w1.ownsRow _ _ _ _ _ _
              rw [strs1_snoc, List.length_append]
              exact hO1
            obtain ⟨a1, n1, c1, rfl⟩ := row_sl hO1
            clear hO hB hg1 hO1
            go_wp2_with fail
            go_roundw
            case rel => exact ⟨b + 1, b + 1, _, by go_num, by go_num, by omega, by omega, hl2, hnx, hO2, hB1⟩
            case measure => simp [intOf] <;> omega
          · have hg' : ¬ (a : Int) < (b : Int) := by omega
            have hne : (s.data.toList.drop a).take (b - a) = [] := by rw [show b - a = 0 by omega]; rfl
            rw [hne] at hP2
            have hnx : Hid (FInv isBlank s.data.toList runsOf (fieldsL 0 s.data.toList) (b + 1) (b + 1) (runsOf pre)) := .inl ⟨by omega, Nat.le_refl _, _, hP2, (runsOf_snoc_nil pre true).symm⟩
            clear hbl HP h2 hP2 hne
            obtain ⟨a0, n0, c0, hv0⟩ := row_sl (unhide hO)
            subst hv0
            go_wp2_with fail
            refine (unhide C1 _).mono ?_
            rintro e w' ⟨rfl, hww⟩
            subst hww
            go_wp2_with fail
            go_roundw
            case rel => exact ⟨b + 1, b + 1, runsOf pre, by go_num, by go_num, by omega, by omega, hFl, hnx, hO, hB⟩
            case measure => simp [intOf] <;> omega
      · obtain rfl : b = s.size := by omega
        by_cases hg : a < s.size
        · have hg' : (a : Int) < (s.size : Int) := by omega
          have hx := (unhide HP).last h2.symm hg
          have hne : s.data.toList.drop a ≠ [] := by
            intro e
            have := congrArg List.length e
            rw [List.length_drop, List.length_nil] at this
            omega
          have hr : fieldsL 0 s.data.toList = runsOf pre ++ [s.data.toList.drop a] := by
            show runsOf (parts isBlank s.data.toList) = _
            rw [hx, runsOf_snoc pre _ false hne]
          have hnx : Hid (FInv isBlank s.data.toList runsOf (fieldsL 0 s.data.toList) (s.size + 1) (s.size + 1) (fieldsL 0 s.data.toList)) := .inr ⟨rfl, rfl⟩
          have hl3 : (runsOf pre).length + 1 ≤ 1073741824 := by rw [hr, List.length_append] at hrl; simp at hrl; omega
          have HR := hide hr
          clear HP h2 hx hne hr
          obtain ⟨a0, n0, c0, hv0⟩ := row_sl (unhide hO)
          subst hv0
          go_wp2_with (at_builtin; refine wpList_append_own _ rfl _ _ 24 rfl w.heap.size 9 i0 _ 1 16 Tryd.underlying24 hi hz0 hz1 hz2 rfl (by decide) _ _ _ rfl ((unhide hO).alloc _) ⟨wr.heap.size, 0, none⟩ 1 1 [.string (s.extract a s.size)] rfl rfl (one_new' _ _ _) (one_one' _) (by unfold maxLen; omega) (by omega) (by simp; omega) ?_)
          intro v1 w1 hO1 hg1 _
          have hB1 : Hid (Below w.heap.size w w1) := ((unhide hB).alloc hsz _).grown hg1 (by simp; omega) (fun j ej => ((unhide hO).lt j ej).1)
          rw [← bt_drop'] at hO1
          have hO2 : Hid (w1.ownsRow w.heap.size 9 1 v1 (fieldsL 0 s.data.toList).length (strs1 (fieldsL 0 s.data.toList))) := by
            show w1.ownsRow _ _ _ _ _ _
            rw [unhide HR, strs1_snoc, List.length_append]
            exact hO1
          obtain ⟨a1, n1, c1, rfl⟩ := row_sl hO1
          clear hO hB hg1 hO1
          go_wp2_with fail
          go_roundw
          case rel => exact ⟨s.size + 1, s.size + 1, _, by go_num, by go_num, Nat.le_refl _, Nat.le_refl _, by omega, hnx, hO2, hB1⟩
          case measure => simp [intOf] <;> omega
        · have hg' : ¬ (a : Int) < (s.size : Int) := by omega
          have hx := (unhide HP).whole (by omega)
          have hr : fieldsL 0 s.data.toList = runsOf pre := by
            show runsOf (parts isBlank s.data.toList) = _
            rw [hx]
          have hnx : Hid (FInv isBlank s.data.toList runsOf (fieldsL 0 s.data.toList) (s.size + 1) (s.size + 1) (runsOf pre)) := .inr ⟨rfl, hr.symm⟩
          clear HP h2 hx hr
          obtain ⟨a0, n0, c0, hv0⟩ := row_sl (unhide hO)
          subst hv0
          go_wp2_with fail
          go_roundw
          case rel => exact ⟨s.size + 1, s.size + 1, _, by go_num, by go_num, Nat.le_refl _, Nat.le_refl _, hFl, hnx, hO, hB⟩
          case measure => simp [intOf] <;> omega
    · have hle' : ¬ (b : Int) ≤ (s.size : Int) := by omega
      have hF : F = fieldsL 0 s.data.toList := by
        rcases unhide hinv with h | h
        · exfalso; omega
        · exact h.2
      subst hF
      obtain ⟨a0, n0, c0, hv0⟩ := row_sl (unhide hO)
      subst hv0
      go_wp2_with fail
      go_ret
      exact ⟨_, rfl, unhide hO, unhide hB⟩

def fsts (l : List (List UInt8 × Bool)) : List (List UInt8) := l.map (·.1)
theorem fsts_snoc (l : List (List UInt8 × Bool)) (x : List UInt8) (b : Bool) : fsts (l ++ [(x, b)]) = fsts l ++ [x] := by simp [fsts]

set_option maxRecDepth 100000 in
set_option maxHeartbeats 1000000 in
theorem refFields_sep (s : ByteArray) (sep : Nat) (w : World) (hs : s.size ≤ 1073741000) (h0 : sep ≠ 0) :
    Calls Tryd.prog 111 #[.string s, .int .u8 sep] w fun e w' => ∃ v, e = .returned v ∧ w'.ownsRow w.heap.size 9 1 v (fieldsL sep s.data.toList).length (strs1 (fieldsL sep s.data.toList)) ∧ Below w.heap.size w w' := by
  obtain ⟨i0, hi, hz0, hz1, hz2⟩ := info_parts Tryd.infoStr
  have hp1 : ((sep : Int) == 0) = false := by simp; omega
  have hp2 : ¬ (sep : Int) = 0 := by omega
  have ef : fieldsL sep s.data.toList = fsts (parts (isSep sep) s.data.toList) ++ if lastT (parts (isSep sep) s.data.toList) then [[]] else [] := by unfold fieldsL fsts; rw [if_neg h0]
  have HF := hide ef
  clear ef
  go_enter Tryd.func111, Tryd.ntmps111
  go_wp2_with fail
  go_loopw [5, 6, 7] (fun v vf vi wr => ∃ (a b : Nat) (F : List (List UInt8)), vf = .int .i64 a ∧ vi = .int .i64 b ∧ b ≤ s.size + 1 ∧ a ≤ s.size + 1 ∧ F.length ≤ 1073741824 ∧ Hid (FInv (isSep sep) s.data.toList fsts (fieldsL sep s.data.toList) a b F) ∧ Hid (wr.ownsRow w.heap.size 9 1 v F.length (strs1 F)) ∧ Hid (Below w.heap.size w wr)) (fun _ _ vi _ => s.size + 1 - (intOf vi).toNat)
  case atStart => exact ⟨0, 0, [], rfl, rfl, Nat.zero_le _, Nat.zero_le _, by simp, .inl ⟨Nat.zero_le _, Nat.le_refl _, [], PInv.start _ _, rfl⟩, World.ownsRow_nil _ _ _ _, Below.refl _ _⟩
  case round =>
    obtain ⟨a, b, F, rfl, rfl, hbs, has, hFl, hinv, hO, hB⟩ := hrel
    have hsz := (unhide hB).size
    have h2 : s.data.toList.length = s.size := rfl
    by_cases hle : b ≤ s.size
    · have hle' : (b : Int) ≤ (s.size : Int) := by omega
      obtain ⟨_, hab, pre, hP, rfl⟩ : b ≤ s.data.toList.length ∧ a ≤ b ∧ ∃ pre, PInv (isSep sep) s.data.toList a b pre ∧ F = fsts pre := by
        rcases unhide hinv with h | h
        · exact h
        · exfalso; omega
      have HP := hide hP
      have hpl := hP.len
      have hfl : (fsts pre).length = pre.length := by simp [fsts]
      clear hP hinv
      by_cases hlt : b < s.size
      · have hlt' : (b : Int) < (s.size : Int) := by omega
        have hll : b < s.data.toList.length := hlt
        by_cases hE : s[b].toNat = sep
        · have hE' : (s[b].toNat : Int) = (sep : Int) := by omega
          have hP2 := (unhide HP).hit hab hll (by show isSep sep s[b] = true; simp [isSep, hE])
          have hnx : Hid (FInv (isSep sep) s.data.toList fsts (fieldsL sep s.data.toList) (b + 1) (b + 1) (fsts pre ++ [(s.data.toList.drop a).take (b - a)])) := .inl ⟨by omega, Nat.le_refl _, _, hP2, (fsts_snoc _ _ _).symm⟩
          have hl2 : (fsts pre ++ [(s.data.toList.drop a).take (b - a)]).length ≤ 1073741824 := by
            rw [List.length_append, hfl]
            simp
            omega
          have hl3 : (fsts pre).length + 1 ≤ 1073741824 := by simpa using hl2
          clear hE HP h2 hP2 hfl hpl
          obtain ⟨a0, n0, c0, hv0⟩ := row_sl (unhide hO)
          subst hv0
          go_wp2_with (at_builtin; refine wpList_append_own _ rfl _ _ 24 rfl w.heap.size 9 i0 _ 1 16 Tryd.underlying24 hi hz0 hz1 hz2 rfl (by decide) _ _ _ rfl ((unhide hO).alloc _) ⟨wr.heap.size, 0, none⟩ 1 1 [.string (s.extract a b)] rfl rfl (one_new' _ _ _) (one_one' _) (by unfold maxLen; omega) (by omega) (by simp; omega) ?_)
          intro v1 w1 hO1 hg1 _
          have hB1 : Hid (Below w.heap.size w w1) := ((unhide hB).alloc hsz _).grown hg1 (by simp; omega) (fun j ej => ((unhide hO).lt j ej).1)
          rw [bt_extract] at hO1
          have hO2 : Hid (w1.ownsRow w.heap.size 9 1 v1 (fsts pre ++ [(s.data.toList.drop a).take (b - a)]).length (strs1 (fsts pre ++ [(s.data.toList.drop a).take (b - a)]))) := by
            show w1.ownsRow _ _ _ _ _ _
            rw [strs1_snoc, List.length_append]
            exact hO1
          obtain ⟨a1, n1, c1, rfl⟩ := row_sl hO1
          clear hO hB hg1 hO1
          go_wp2_with fail
          go_roundw
          case rel => exact ⟨b + 1, b + 1, _, by go_num, by go_num, by omega, by omega, hl2, hnx, hO2, hB1⟩
          case measure => simp [intOf] <;> omega
        · have hE' : ((s[b].toNat : Int) == (sep : Int)) = false := by simp; omega
          have hnx : Hid (FInv (isSep sep) s.data.toList fsts (fieldsL sep s.data.toList) a (b + 1) (fsts pre)) := .inl ⟨by omega, by omega, pre, (unhide HP).miss hab hll (by show isSep sep s[b] = false; simp [isSep, hE]), rfl⟩
          have hE2 : ((s[b].toNat : Int) != (sep : Int)) = true := by simp; omega
          clear hE HP h2 hfl hpl
          obtain ⟨a0, n0, c0, hv0⟩ := row_sl (unhide hO)
          subst hv0
          go_wp2_with fail
          go_roundw
          case rel => exact ⟨a, b + 1, fsts pre, rfl, by go_num, by omega, by omega, hFl, hnx, hO, hB⟩
          case measure => simp [intOf] <;> omega
      · obtain rfl : b = s.size := by omega
        have hr : fieldsL sep s.data.toList = fsts pre ++ [s.data.toList.drop a] := by
          rw [unhide HF]
          by_cases hg : a < s.size
          · rw [(unhide HP).last h2.symm hg, fsts_snoc, lastT_snoc]
            simp
          · rw [(unhide HP).whole (by omega), (last_true (unhide HP).ends).2, List.drop_eq_nil_of_le (by omega)]
            simp
        have hnx : Hid (FInv (isSep sep) s.data.toList fsts (fieldsL sep s.data.toList) (s.size + 1) (s.size + 1) (fieldsL sep s.data.toList)) := .inr ⟨rfl, rfl⟩
        have hl3 : (fsts pre).length + 1 ≤ 1073741824 := by omega
        have hl4 : (fieldsL sep s.data.toList).length ≤ 1073741824 := by rw [hr, List.length_append, hfl]; simp; omega
        have HR := hide hr
        clear HP hr hfl hpl
        obtain ⟨a0, n0, c0, hv0⟩ := row_sl (unhide hO)
        subst hv0
        go_wp2_with (at_builtin; refine wpList_append_own _ rfl _ _ 24 rfl w.heap.size 9 i0 _ 1 16 Tryd.underlying24 hi hz0 hz1 hz2 rfl (by decide) _ _ _ rfl ((unhide hO).alloc _) ⟨wr.heap.size, 0, none⟩ 1 1 [.string (s.extract a s.size)] rfl rfl (one_new' _ _ _) (one_one' _) (by unfold maxLen; omega) (by omega) (by simp; omega) ?_)
        intro v1 w1 hO1 hg1 _
        have hB1 : Hid (Below w.heap.size w w1) := ((unhide hB).alloc hsz _).grown hg1 (by simp; omega) (fun j ej => ((unhide hO).lt j ej).1)
        rw [← bt_drop'] at hO1
        have hO2 : Hid (w1.ownsRow w.heap.size 9 1 v1 (fieldsL sep s.data.toList).length (strs1 (fieldsL sep s.data.toList))) := by
          show w1.ownsRow _ _ _ _ _ _
          rw [unhide HR, strs1_snoc, List.length_append]
          exact hO1
        obtain ⟨a1, n1, c1, rfl⟩ := row_sl hO1
        clear hO hB hg1 hO1
        go_wp2_with fail
        go_roundw
        case rel => exact ⟨s.size + 1, s.size + 1, _, by go_num, by go_num, Nat.le_refl _, Nat.le_refl _, hl4, hnx, hO2, hB1⟩
        case measure => simp [intOf] <;> omega
    · have hle' : ¬ (b : Int) ≤ (s.size : Int) := by omega
      have hF : F = fieldsL sep s.data.toList := by
        rcases unhide hinv with h | h
        · exfalso; omega
        · exact h.2
      subst hF
      obtain ⟨a0, n0, c0, hv0⟩ := row_sl (unhide hO)
      subst hv0
      go_wp2_with fail
      go_ret
      exact ⟨_, rfl, unhide hO, unhide hB⟩

theorem refFields_any (s : ByteArray) (sep : Nat) (w : World) (hs : s.size ≤ 1073741000) :
    Calls Tryd.prog 111 #[.string s, .int .u8 sep] w fun e w' => ∃ v, e = .returned v ∧ w'.ownsRow w.heap.size 9 1 v (fieldsL sep s.data.toList).length (strs1 (fieldsL sep s.data.toList)) ∧ Below w.heap.size w w' := by
  by_cases h : sep = 0
  · subst h; exact refFields_blank s w (by omega)
  · exact refFields_sep s sep w hs h
end Go.Proofs.YtjfjhpakkflceaaDoor.Ln
