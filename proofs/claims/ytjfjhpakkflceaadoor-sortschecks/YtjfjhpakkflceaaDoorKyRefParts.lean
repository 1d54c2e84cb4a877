/- What the document's Check and Parts answer. -/
import Derived.Test.YtjfjhpakkflceaaDoorKyRefPlain
import Derived.Test.YtjfjhpakkflceaaDoorKyRow
import Derived.Test.YtjfjhpakkflceaaDoorLnRefSplit
import Derived.Deep.DeepCutAuto
import Derived.Deep.CutBlock
namespace Go.Proofs.YtjfjhpakkflceaaDoor.Ky
open Go.RowKit Go.Shelf

attribute [local go_sem] Oper.semAt_some

set_option maxHeartbeats 1000000 in
theorem rcheck_any (o : Ord) (w : World) :
    Calls Tryd.prog 23 #[ov o] w fun e w' => e = .returned (.bool (okO o)) ∧ Below w.heap.size w w' := by
  have e10 : o.sep ≠ 10 ↔ ¬ (o.sep.toNat : Int) = 10 := by
    constructor
    · intro h h'; exact h (UInt8.toNat_inj.1 (by rw [show (10 : UInt8).toNat = 10 from rfl]; omega))
    · intro h h'; exact h (by rw [h']; rfl)
  obtain ⟨r, hr⟩ : ∃ r, r = okO o := ⟨_, rfl⟩
  rw [← hr]
  unfold okO at hr
  simp only [e10] at hr
  unfold ov
  obtain ⟨fr, tt, sep, num, bls, fold, rev⟩ := o
  simp only at hr ⊢
  generalize (sep.toNat : Int) = c at *
  clear e10
  by_cases h1 : fr < 0
  · obtain rfl : r = false := by rw [hr]; simp; omega
    clear hr
    go_enter Tryd.func23, Tryd.ntmps23
    go_wp2
    go_ret
    exact ⟨rfl, (Below.refl _ _).alloc (Nat.le_refl _) _⟩
  by_cases h2 : 1000 < fr
  · obtain rfl : r = false := by rw [hr]; simp; omega
    clear hr
    go_enter Tryd.func23, Tryd.ntmps23
    go_wp2
    go_ret
    exact ⟨rfl, (Below.refl _ _).alloc (Nat.le_refl _) _⟩
  by_cases h3 : c = 10
  · obtain rfl : r = false := by rw [hr]; simp; omega
    clear hr
    subst h3
    go_enter Tryd.func23, Tryd.ntmps23
    go_wp2
    go_ret
    exact ⟨rfl, (Below.refl _ _).alloc (Nat.le_refl _) _⟩
  by_cases h4 : tt = 0
  · obtain rfl : r = true := by rw [hr]; simp; omega
    clear hr
    subst h4
    go_enter Tryd.func23, Tryd.ntmps23
    go_wp2
    go_ret
    exact ⟨rfl, (Below.refl _ _).alloc (Nat.le_refl _) _⟩
  have h4' : (tt == 0) = false := by simpa using h4
  by_cases h5 : 0 < fr
  · by_cases h6 : fr ≤ tt
    · by_cases h7 : tt ≤ 1000
      · obtain rfl : r = true := by rw [hr]; simp; omega
        clear hr
        go_enter Tryd.func23, Tryd.ntmps23
        go_wp2
        go_ret
        exact ⟨rfl, (Below.refl _ _).alloc (Nat.le_refl _) _⟩
      · obtain rfl : r = false := by rw [hr]; simp; omega
        clear hr
        go_enter Tryd.func23, Tryd.ntmps23
        go_wp2
        go_ret
        exact ⟨rfl, (Below.refl _ _).alloc (Nat.le_refl _) _⟩
    · obtain rfl : r = false := by rw [hr]; simp; omega
      clear hr
      go_enter Tryd.func23, Tryd.ntmps23
      go_wp2
      go_ret
      exact ⟨rfl, (Below.refl _ _).alloc (Nat.le_refl _) _⟩
  · obtain rfl : r = false := by rw [hr]; simp; omega
    clear hr
    go_enter Tryd.func23, Tryd.ntmps23
    go_wp2
    go_ret
    exact ⟨rfl, (Below.refl _ _).alloc (Nat.le_refl _) _⟩

theorem rblank_any (c : UInt8) (w : World) :
    Calls Tryd.prog 79 #[.int .u8 (c.toNat : Int)] w fun e w' => e = .returned (.bool (bl c)) ∧ w' = w := by
  have e : bl c = decide ((c.toNat : Int) = 32 ∨ (c.toNat : Int) = 9) := by
    unfold bl
    have h1 := u8_eq c 32
    have h2 := u8_eq c 9
    simp only [decide_eq_decide] at h1 h2
    simp only [h1, h2]; rfl
  rw [e]
  generalize (c.toNat : Int) = x
  clear e
  by_cases h1 : x = 32
  · subst h1
    go_enter Tryd.func79, Tryd.ntmps79
    go_wp2
    go_ret
    exact ⟨rfl, rfl⟩
  · by_cases h2 : x = 9
    · subst h2
      go_enter Tryd.func79, Tryd.ntmps79
      go_wp2
      go_ret
      exact ⟨rfl, rfl⟩
    · have a1 : (x == 32) = false := by simpa using h1
      have a2 : (x == 9) = false := by simpa using h2
      go_enter Tryd.func79, Tryd.ntmps79
      go_wp2
      go_ret
      exact ⟨by simp [h1, h2], rfl⟩

theorem parts_more (l : Bs) (pre : List Bs) (k : Nat) (h : k < l.length) (hp : partsOf l = pre ++ partsOf (l.drop k)) : partsOf l = (pre ++ [(l.drop k).take (fend l k - k)]) ++ partsOf (l.drop (fend l k)) ∧ k < fend l k := by
  obtain ⟨c, r, e⟩ := partsOf_at l k h
  have h1 := partsOf_cons c r
  rw [← e] at h1
  have h2 : part1 (l.drop k) = (l.drop k).take (fend l k - k) := by
    rw [fend_eq, Nat.add_sub_cancel_left]
    have := congrArg (List.take (part1 (l.drop k)).length) (part12 (l.drop k))
    rw [List.take_left] at this
    exact this
  refine ⟨by rw [hp, h1, fend_drop, h2]; simp, ?_⟩
  have h3 := part2_lt c r
  rw [← e, ← fend_drop] at h3
  have h4 := congrArg List.length e
  rw [List.length_drop, List.length_cons] at h4
  rw [List.length_drop] at h3
  omega
theorem pre_len (l : Bs) (pre : List Bs) (k : Nat) (hp : partsOf l = pre ++ partsOf (l.drop k)) : pre.length ≤ l.length := by
  have h : ∀ n (l : Bs), l.length ≤ n → (partsOf l).length ≤ l.length := by
    intro n
    induction n with
    | zero => intro l h; cases l with
      | nil => exact Nat.le_refl _
      | cons c r => simp at h
    | succ n ih =>
      intro l h
      cases l with
      | nil => exact Nat.le_refl _
      | cons c r =>
        have h1 := part2_lt c r
        simp at h
        have h2 := ih (part2 (c :: r)) (by omega)
        rw [partsOf_cons]; simp; omega
  have h1 := h l.length l (Nat.le_refl _)
  rw [hp, List.length_append] at h1
  omega

set_option maxRecDepth 100000 in
set_option maxHeartbeats 1000000 in
theorem rparts_any (s : ByteArray) (w : World) (hs : s.size ≤ 1073741000) :
    Calls Tryd.prog 110 #[.string s] w fun e w' => ∃ v, e = .returned v ∧ w'.ownsRow w.heap.size 9 1 v (partsOf s.data.toList).length (Ln.strs1 (partsOf s.data.toList)) ∧ Below w.heap.size w w' := by
  obtain ⟨i0, hi, hz0, hz1, hz2⟩ := info_parts Ln.Tryd.infoStr
  have C : Hid (∀ (c : UInt8) (w : World), Calls Tryd.prog 79 #[.int .u8 (c.toNat : Int)] w fun e w' => e = .returned (.bool (bl c)) ∧ w' = w) := rblank_any
  go_enter Tryd.func110, Tryd.ntmps110
  go_wp2_with fail
  go_loopg [3, 4, 5] s.size (fun g v vk _ wr => ∃ (k : Nat) (pre : List Bs), k ≤ s.size ∧ g = s.size - k ∧ vk = .int .i64 k ∧ pre.length ≤ 1073741000 ∧ Hid (partsOf s.data.toList = pre ++ partsOf (s.data.toList.drop k)) ∧ Hid (wr.ownsRow w.heap.size 9 1 v pre.length (Ln.strs1 pre)) ∧ Hid (Below w.heap.size w wr))
  case atStart => exact ⟨0, [], Nat.zero_le _, rfl, rfl, by simp, rfl, World.ownsRow_nil _ _ _ _, Below.refl _ _⟩
  case round =>
    obtain ⟨k, pre, hk, rfl, rfl, hpl, hP, hO, hB⟩ := hrel
    have hsz := (unhide hB).size
    obtain ⟨a0, n0, c0, hv0⟩ := Ln.row_sl (unhide hO)
    subst hv0
    by_cases hlt : k < s.size
    · have hlt' : (k : Int) < (s.size : Int) := by omega
      have hll : k < s.data.toList.length := hlt
      obtain ⟨m, hm⟩ : ∃ m, m = upto bl s.data.toList k := ⟨_, rfl⟩
      obtain ⟨q, hq⟩ : ∃ q, q = fend s.data.toList k := ⟨_, rfl⟩
      have hmore := parts_more s.data.toList pre k hll (unhide hP)
      have hfl := fend_le s.data.toList k (by omega)
      rw [← hq] at hmore hfl
      have hql : q ≤ s.size := hfl.2
      have hkq : k < q := hmore.2
      have hkq' : k ≤ q := by omega
      have hP2 := hide hmore.1
      have hl2 : Hid ((pre ++ [(s.data.toList.drop k).take (q - k)]).length ≤ 1073741000) := by
        have := pre_len _ _ _ hmore.1
        have h2 : s.data.toList.length = s.size := rfl
        show _ ≤ _
        omega
      have hl3 : pre.length + 1 ≤ 1073741000 := by have := unhide hl2; rw [List.length_append, List.length_singleton] at this; exact this
      have HQ : Hid (q = upto (fun c => !bl c) s.data.toList m) := by show _ = _; rw [hq, hm]; rfl
      have HM := hide hm
      have hml : m ≤ s.size := by rw [hm]; exact (upto_le bl s.data.toList k (by omega)).2
      clear hm hq hmore hfl hP hll
      go_upto_block 2 with fail
      go_cut [4] (fun v wx => wr = wx ∧ v = .int .i64 (m : Int))
      case first =>
        go_wp2_with fail
        go_loopg [4] (s.size - k) (fun g v wx => wr = wx ∧ ∃ j : Nat, j ≤ s.size ∧ g = s.size - j ∧ v = .int .i64 j ∧ Hid (m = upto bl s.data.toList j))
        case atStart => exact ⟨rfl, k, hk, rfl, rfl, HM⟩
        case round =>
          clear hlt'
          obtain ⟨rfl, j, hj, rfl, rfl, hu⟩ := hrel
          by_cases hlt : j < s.size
          · have hlt' : (j : Int) < (s.size : Int) := by omega
            have HC := hide (unhide C s[j])
            cases hp : bl s[j]
            · rw [hp] at HC
              have hu2 := hide ((unhide hu).trans (upto_stop hlt hp))
              clear hp hu C
              go_wp2_with fail
              refine (unhide HC _).mono ?_
              rintro e w' ⟨rfl, hw⟩
              rw [hw]
              go_wp2_with fail
              go_meet
              exact ⟨rfl, by rw [unhide hu2]⟩
            · rw [hp] at HC
              have hu2 := hide ((unhide hu).trans (upto_step hlt hp))
              clear hp hu C
              go_wp2_with fail
              refine (unhide HC _).mono ?_
              rintro e w' ⟨rfl, hw⟩
              rw [hw]
              go_wp2_with fail
              go_roundg (s.size - (j + 1))
              case measure => omega
              case rel => exact ⟨rfl, j + 1, by omega, rfl, by go_num, hu2⟩
          · have hlt' : ¬ (j : Int) < (s.size : Int) := by omega
            have hu2 := hide ((unhide hu).trans (upto_end (by omega)))
            clear hu C
            go_wp2_with fail
            go_meet
            exact ⟨rfl, by rw [unhide hu2]⟩
      case rest =>
        obtain ⟨rfl, rfl⟩ := hcut
        clear HM
        go_upto_block 4 with fail
        go_cut [4] (fun v wx => wr = wx ∧ v = .int .i64 (q : Int))
        case first =>
          go_wp2_with fail
          go_loopg [4] (s.size - m) (fun g v wx => wr = wx ∧ ∃ j : Nat, j ≤ s.size ∧ g = s.size - j ∧ v = .int .i64 j ∧ Hid (q = upto (fun c => !bl c) s.data.toList j))
          case atStart => exact ⟨rfl, m, hml, rfl, rfl, HQ⟩
          case round =>
            clear hlt'
            obtain ⟨rfl, j, hj, rfl, rfl, hu⟩ := hrel
            by_cases hlt : j < s.size
            · have hlt' : (j : Int) < (s.size : Int) := by omega
              have HC := hide (unhide C s[j])
              cases hp : bl s[j]
              · rw [hp] at HC
                have hu2 := hide ((unhide hu).trans (upto_step (p := fun c => !bl c) hlt (by simp [hp])))
                clear hp hu C
                go_wp2_with fail
                refine (unhide HC _).mono ?_
                rintro e w' ⟨rfl, hw⟩
                rw [hw]
                go_wp2_with fail
                go_roundg (s.size - (j + 1))
                case measure => omega
                case rel => exact ⟨rfl, j + 1, by omega, rfl, by go_num, hu2⟩
              · rw [hp] at HC
                have hu2 := hide ((unhide hu).trans (upto_stop (p := fun c => !bl c) hlt (by simp [hp])))
                clear hp hu C
                go_wp2_with fail
                refine (unhide HC _).mono ?_
                rintro e w' ⟨rfl, hw⟩
                rw [hw]
                go_wp2_with fail
                go_meet
                exact ⟨rfl, by rw [unhide hu2]⟩
            · have hlt' : ¬ (j : Int) < (s.size : Int) := by omega
              have hu2 := hide ((unhide hu).trans (upto_end (p := fun c => !bl c) (by omega)))
              clear hu C
              go_wp2_with fail
              go_meet
              exact ⟨rfl, by rw [unhide hu2]⟩
        case rest =>
          obtain ⟨rfl, rfl⟩ := hcut
          clear HQ C
          go_wp2_with (at_builtin; refine wpList_append_own _ rfl _ _ 24 rfl w.heap.size 9 i0 _ 1 16 Tryd.underlying24 hi hz0 hz1 hz2 rfl (by decide) _ _ _ rfl ((unhide hO).alloc _) ⟨wr.heap.size, 0, none⟩ 1 1 [.string (s.extract k q)] rfl rfl (Ln.one_new' _ _ _) (Ln.one_one' _) (by unfold maxLen; omega) (by omega) (by simp; omega) ?_)
          intro v1 w1 hO1 hg1 _
          have hB1 : Hid (Below w.heap.size w w1) := ((unhide hB).alloc hsz _).grown hg1 (by simp; omega) (fun j ej => ((unhide hO).lt j ej).1)
          rw [Ln.bt_extract] at hO1
          have hO2 : Hid (w1.ownsRow w.heap.size 9 1 v1 (pre ++ [(s.data.toList.drop k).take (q - k)]).length (Ln.strs1 (pre ++ [(s.data.toList.drop k).take (q - k)]))) := by
            show w1.ownsRow _ _ _ _ _ _
            rw [Ln.strs1_snoc, List.length_append]
            exact hO1
          obtain ⟨a1, n1, c1, rfl⟩ := Ln.row_sl hO1
          clear hO hB hg1 hO1
          go_wp2_with fail
          go_roundg (s.size - q)
          case measure => omega
          case rel => exact ⟨q, _, hql, rfl, rfl, unhide hl2, hP2, hO2, hB1⟩
    · have hlt' : ¬ (k : Int) < (s.size : Int) := by omega
      have hP2 : partsOf s.data.toList = pre := by rw [unhide hP, List.drop_eq_nil_of_le (show s.data.toList.length ≤ k by have : s.data.toList.length = s.size := rfl; omega), partsOf_nil, List.append_nil]
      have HP2 := hide hP2
      clear hP hP2
      go_wp2_with fail
      go_ret
      exact ⟨_, rfl, by rw [unhide HP2]; exact unhide hO, unhide hB⟩
end Go.Proofs.YtjfjhpakkflceaaDoor.Ky
