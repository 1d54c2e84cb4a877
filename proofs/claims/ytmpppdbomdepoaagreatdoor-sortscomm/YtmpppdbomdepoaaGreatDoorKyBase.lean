/- What Check, isBlank, blankFieldEnd and cutDigits answer. -/
import Derived.Test.YtmpppdbomdepoaaGreatDoorKySpan
import Derived.Test.YtmpppdbomdepoaaGreatDoorLnFields
import Derived.BigRegion
namespace Go.Proofs.YtmpppdbomdepoaaGreatDoor.Ky
open Go.RowKit Go.Shelf

attribute [local go_sem] Oper.semAt_some
theorem hide {p : Prop} (h : p) : Hid p := h
theorem unhide {p : Prop} (h : Hid p) : p := h.out

/-- an order as a value -/
def ov (o : Ord) : Value := .agg #[.bool o.num, .bool o.fold, .bool o.bls, .bool o.rev, .int .i64 o.fr, .int .i64 o.to, .int .u8 (o.sep.toNat : Int)]

theorem u8_eq (c d : UInt8) : decide (c = d) = decide ((c.toNat : Int) = (d.toNat : Int)) := by
  congr 1
  apply propext
  constructor
  · intro h; rw [h]
  · intro h; exact UInt8.toNat_inj.1 (by omega)

set_option maxHeartbeats 1000000 in
theorem check_any (o : Ord) (w : World) :
    Calls Tryz.prog 21 #[ov o] w fun e w' => e = .returned (.bool (okO o)) ∧ Below w.heap.size w w' := by
  have e10 : o.sep ≠ 10 ↔ ¬ (o.sep.toNat : Int) = 10 := by
    constructor
    · intro h h'; exact h (UInt8.toNat_inj.1 (by rw [show (10 : UInt8).toNat = 10 from rfl]; omega))
    · intro h h'; exact h (by rw [h']; rfl)
  obtain ⟨r, hr⟩ : ∃ r, r = okO o := ⟨_, rfl⟩
  rw [← hr]
  unfold okO at hr
  simp only [e10] at hr
  unfold ov
  obtain ⟨fr, to, sep, num, bls, fold, rev⟩ := o
  simp only at hr ⊢
  generalize (sep.toNat : Int) = c at *
  clear e10
  by_cases h1 : fr < 0
  · obtain rfl : r = false := by rw [hr]; simp; omega
    clear hr
    go_enter Tryz.func21, Tryz.ntmps21
    go_wp2
    go_ret
    exact ⟨rfl, (Below.refl _ _).alloc (Nat.le_refl _) _⟩
  by_cases h2 : 1000 < fr
  · obtain rfl : r = false := by rw [hr]; simp; omega
    clear hr
    go_enter Tryz.func21, Tryz.ntmps21
    go_wp2
    go_ret
    exact ⟨rfl, (Below.refl _ _).alloc (Nat.le_refl _) _⟩
  by_cases h3 : c = 10
  · obtain rfl : r = false := by rw [hr]; simp; omega
    clear hr
    subst h3
    go_enter Tryz.func21, Tryz.ntmps21
    go_wp2
    go_ret
    exact ⟨rfl, (Below.refl _ _).alloc (Nat.le_refl _) _⟩
  by_cases h4 : to = 0
  · obtain rfl : r = true := by rw [hr]; simp; omega
    clear hr
    subst h4
    go_enter Tryz.func21, Tryz.ntmps21
    go_wp2
    go_ret
    exact ⟨rfl, (Below.refl _ _).alloc (Nat.le_refl _) _⟩
  by_cases h5 : 0 < fr
  · by_cases h6 : fr ≤ to
    · by_cases h7 : to ≤ 1000
      · obtain rfl : r = true := by rw [hr]; simp; omega
        clear hr
        go_enter Tryz.func21, Tryz.ntmps21
        go_wp2
        go_ret
        exact ⟨rfl, (Below.refl _ _).alloc (Nat.le_refl _) _⟩
      · obtain rfl : r = false := by rw [hr]; simp; omega
        clear hr
        go_enter Tryz.func21, Tryz.ntmps21
        go_wp2
        go_ret
        exact ⟨rfl, (Below.refl _ _).alloc (Nat.le_refl _) _⟩
    · obtain rfl : r = false := by rw [hr]; simp; omega
      clear hr
      go_enter Tryz.func21, Tryz.ntmps21
      go_wp2
      go_ret
      exact ⟨rfl, (Below.refl _ _).alloc (Nat.le_refl _) _⟩
  · obtain rfl : r = false := by rw [hr]; simp; omega
    clear hr
    go_enter Tryz.func21, Tryz.ntmps21
    go_wp2
    go_ret
    exact ⟨rfl, (Below.refl _ _).alloc (Nat.le_refl _) _⟩

theorem isBlank_any (c : UInt8) (w : World) :
    Calls Tryz.prog 184 #[.int .u8 (c.toNat : Int)] w fun e w' => e = .returned (.bool (bl c)) ∧ w' = w := by
  have e : bl c = decide ((c.toNat : Int) = 32 ∨ (c.toNat : Int) = 9) := by
    unfold bl
    have h1 := u8_eq c 32
    have h2 := u8_eq c 9
    simp only [decide_eq_decide] at h1 h2
    simp only [h1, h2]; rfl
  rw [e]
  generalize (c.toNat : Int) = x
  clear e
  by_cases h1 : x = 32
  · subst h1
    go_enter Tryz.func184, Tryz.ntmps184
    go_wp2
    go_ret
    exact ⟨rfl, rfl⟩
  · by_cases h2 : x = 9
    · subst h2
      go_enter Tryz.func184, Tryz.ntmps184
      go_wp2
      go_ret
      exact ⟨rfl, rfl⟩
    · have a1 : (x == 32) = false := by simpa using h1
      have a2 : (x == 9) = false := by simpa using h2
      go_enter Tryz.func184, Tryz.ntmps184
      go_wp2
      go_ret
      exact ⟨by simp [h1, h2], rfl⟩

/-! ### while bytes are such -/
theorem run_step {p : UInt8 → Bool} {s : ByteArray} {a : Nat} (h : a < s.size) (hp : p s[a] = true) : (s.data.toList.drop a).takeWhile p = s[a] :: (s.data.toList.drop (a + 1)).takeWhile p ∧ (s.data.toList.drop a).dropWhile p = (s.data.toList.drop (a + 1)).dropWhile p := by
  have hl : a < s.data.toList.length := h
  have e : s.data.toList.drop a = s[a] :: s.data.toList.drop (a + 1) := List.drop_eq_getElem_cons hl
  rw [e, List.takeWhile_cons, List.dropWhile_cons, hp]; simp
theorem run_stop {p : UInt8 → Bool} {s : ByteArray} {a : Nat} (h : a < s.size) (hp : p s[a] = false) : (s.data.toList.drop a).takeWhile p = [] ∧ (s.data.toList.drop a).dropWhile p = s.data.toList.drop a := by
  have hl : a < s.data.toList.length := h
  have e : s.data.toList.drop a = s[a] :: s.data.toList.drop (a + 1) := List.drop_eq_getElem_cons hl
  rw [e, List.takeWhile_cons, List.dropWhile_cons, hp]; simp
theorem run_end {p : UInt8 → Bool} {s : ByteArray} {a : Nat} (h : s.size ≤ a) : (s.data.toList.drop a).takeWhile p = [] ∧ (s.data.toList.drop a).dropWhile p = [] := by
  have : s.data.toList.drop a = [] := List.drop_eq_nil_of_le h
  rw [this]; exact ⟨rfl, rfl⟩
/-- as far as bytes are such, from a on -/
def upto (p : UInt8 → Bool) (l : Bs) (a : Nat) : Nat := a + ((l.drop a).takeWhile p).length
theorem upto_step {p : UInt8 → Bool} {s : ByteArray} {a : Nat} (h : a < s.size) (hp : p s[a] = true) : upto p s.data.toList a = upto p s.data.toList (a + 1) := by
  unfold upto; rw [(run_step h hp).1]; simp; omega
theorem upto_stop {p : UInt8 → Bool} {s : ByteArray} {a : Nat} (h : a < s.size) (hp : p s[a] = false) : upto p s.data.toList a = a := by
  unfold upto; rw [(run_stop h hp).1]; rfl
theorem upto_end {p : UInt8 → Bool} {s : ByteArray} {a : Nat} (h : s.size ≤ a) : upto p s.data.toList a = a := by
  unfold upto; rw [(run_end h).1]; rfl
theorem upto_le (p : UInt8 → Bool) (l : Bs) (a : Nat) (h : a ≤ l.length) : a ≤ upto p l a ∧ upto p l a ≤ l.length := by
  have := (List.takeWhile_sublist p (l := l.drop a)).length_le
  rw [List.length_drop] at this
  unfold upto; omega
theorem upto_drop (p : UInt8 → Bool) (l : Bs) (a : Nat) : l.drop (upto p l a) = (l.drop a).dropWhile p := by
  unfold upto
  rw [← List.drop_drop]
  have := List.takeWhile_append_dropWhile (p := p) (l := l.drop a)
  have h2 := congrArg (List.drop ((l.drop a).takeWhile p).length) this
  rw [List.drop_left] at h2
  exact h2.symm
theorem upto_take (p : UInt8 → Bool) (l : Bs) (a : Nat) : (l.drop a).take (upto p l a - a) = (l.drop a).takeWhile p := by
  unfold upto
  rw [Nat.add_sub_cancel_left]
  have := List.takeWhile_append_dropWhile (p := p) (l := l.drop a)
  have h2 := congrArg (List.take ((l.drop a).takeWhile p).length) this
  rw [List.take_left] at h2
  exact h2.symm

/-- where the field by blanks that begins at a ends -/
def fend (l : Bs) (a : Nat) : Nat := upto (fun c => !bl c) l (upto bl l a)
theorem fend_eq (l : Bs) (a : Nat) : fend l a = a + (part1 (l.drop a)).length := by
  unfold fend part1
  rw [show upto (fun c => !bl c) l (upto bl l a) = upto bl l a + ((l.drop (upto bl l a)).takeWhile (fun c => !bl c)).length from rfl, upto_drop, List.length_append]
  unfold upto; omega
theorem fend_drop (l : Bs) (a : Nat) : l.drop (fend l a) = part2 (l.drop a) := by
  unfold fend part2; rw [upto_drop, upto_drop]
theorem fend_le (l : Bs) (a : Nat) (h : a ≤ l.length) : a ≤ fend l a ∧ fend l a ≤ l.length := by
  have h1 := upto_le bl l a h
  have h2 := upto_le (fun c => !bl c) l (upto bl l a) h1.2
  unfold fend; omega

set_option maxHeartbeats 1000000 in
theorem blankFieldEnd_any (s : ByteArray) (a : Nat) (w : World) (h : a ≤ s.size) (hs : s.size ≤ 1073741824) :
    Calls Tryz.prog 174 #[.string s, .int .i64 (a : Int)] w fun e w' => e = .returned (.int .i64 (fend s.data.toList a : Nat)) ∧ w' = w := by
  have C : Hid (∀ (c : UInt8) (w : World), Calls Tryz.prog 184 #[.int .u8 (c.toNat : Int)] w fun e w' => e = .returned (.bool (bl c)) ∧ w' = w) := isBlank_any
  obtain ⟨r, hr⟩ : ∃ r, r = fend s.data.toList a := ⟨_, rfl⟩
  rw [← hr]
  have HR := hide hr
  clear hr
  go_enter Tryz.func174, Tryz.ntmps174
  go_wp2
  go_loopw [1] (fun i wr => ∃ k : Nat, k ≤ s.size ∧ i = .int .i64 k ∧ Hid (upto bl s.data.toList k = upto bl s.data.toList a) ∧ wr = w) (fun i _ => s.size - (intOf i).toNat)
  case atStart => exact ⟨a, h, rfl, rfl, rfl⟩
  case round =>
    obtain ⟨k, hk, rfl, hu, rfl⟩ := hrel
    have hq : (k < s.size ∧ ∃ h : k < s.size, bl s[k] = true) ∨ ((k < s.size ∧ ∃ h : k < s.size, bl s[k] = false) ∨ ¬ k < s.size) := by
      by_cases hlt : k < s.size
      · cases hp : bl s[k]
        · exact .inr (.inl ⟨hlt, hlt, hp⟩)
        · exact .inl ⟨hlt, hlt, hp⟩
      · exact .inr (.inr hlt)
    rcases hq with ⟨hlt, _, hp⟩ | hq
    · have HC := hide (unhide C s[k])
      rw [hp] at HC
      have hu2 := hide ((upto_step hlt hp).symm.trans (unhide hu))
      have hlt' : (k : Int) < (s.size : Int) := by omega
      clear hp hu C
      go_wp2_with fail
      refine (unhide HC _).mono ?_
      rintro e w' ⟨rfl, rfl⟩
      go_wp2_with fail
      go_roundw
      case rel => exact ⟨k + 1, by omega, by go_num, hu2, trivial⟩
      case measure => simp [intOf]; omega
    · have hue : Hid (upto bl s.data.toList a = k) := by
        rcases hq with ⟨hlt, _, hp⟩ | hlt
        · exact (unhide hu).symm.trans (upto_stop hlt hp)
        · exact (unhide hu).symm.trans (upto_end (by omega))
      have HR2 : Hid (r = upto (fun c => !bl c) s.data.toList k) := by
        have h1 := unhide HR
        unfold fend at h1
        rw [unhide hue] at h1
        exact h1
      have HC := hide (fun h : k < s.size => unhide C s[k])
      clear hue HR hu
      rcases hq with ⟨hlt, _, hp⟩ | hlt
      · have HC2 := hide (unhide HC hlt)
        have hlt' : (k : Int) < (s.size : Int) := by omega
        rw [hp] at HC2
        clear HC hp
        go_wp2_with fail
        refine (unhide HC2 _).mono ?_
        rintro e w' ⟨rfl, rfl⟩
        clear HC2
        go_wp2_with fail
        go_loopw [1] (fun i wr2 => ∃ j : Nat, j ≤ s.size ∧ i = .int .i64 j ∧ Hid (r = upto (fun c => !bl c) s.data.toList j) ∧ wr2 = w') (fun i _ => s.size - (intOf i).toNat)
        case atStart => exact ⟨k, hk, rfl, HR2, rfl⟩
        case round =>
          clear HR2 hk
          obtain ⟨j, hj, rfl, hu, rfl⟩ := hrel
          by_cases hlt : j < s.size
          · have hlt' : (j : Int) < (s.size : Int) := by omega
            have HC := hide (unhide C s[j])
            cases hp : bl s[j]
            · rw [hp] at HC
              have hu2 := hide ((unhide hu).trans (upto_step (p := fun c => !bl c) hlt (by simp [hp])))
              clear hp hu C
              go_wp2_with fail
              refine (unhide HC _).mono ?_
              rintro e w' ⟨rfl, rfl⟩
              go_wp2_with fail
              go_roundw
              case rel => exact ⟨j + 1, by omega, by go_num, hu2, trivial⟩
              case measure => simp [intOf]; omega
            · rw [hp] at HC
              have hu2 := hide ((unhide hu).trans (upto_stop (p := fun c => !bl c) hlt (by simp [hp])))
              clear hp hu C
              go_wp2_with fail
              refine (unhide HC _).mono ?_
              rintro e w' ⟨rfl, rfl⟩
              go_wp2_with fail
              go_ret
              exact ⟨by rw [unhide hu2]; rfl, rfl⟩
          · have hlt' : ¬ (j : Int) < (s.size : Int) := by omega
            have hu2 := hide ((unhide hu).trans (upto_end (p := fun c => !bl c) (by omega)))
            clear hu C
            go_wp2_with fail
            go_ret
            exact ⟨by rw [unhide hu2]; rfl, rfl⟩
      · clear HC
        have hlt' : ¬ (k : Int) < (s.size : Int) := by omega
        go_wp2_with fail
        go_loopw [1] (fun i wr2 => ∃ j : Nat, j ≤ s.size ∧ i = .int .i64 j ∧ Hid (r = upto (fun c => !bl c) s.data.toList j) ∧ wr2 = wr) (fun i _ => s.size - (intOf i).toNat)
        case atStart => exact ⟨k, hk, rfl, HR2, rfl⟩
        case round =>
          clear HR2 hk
          obtain ⟨j, hj, rfl, hu, rfl⟩ := hrel
          by_cases hlt : j < s.size
          · have hlt' : (j : Int) < (s.size : Int) := by omega
            have HC := hide (unhide C s[j])
            cases hp : bl s[j]
            · rw [hp] at HC
              have hu2 := hide ((unhide hu).trans (upto_step (p := fun c => !bl c) hlt (by simp [hp])))
              clear hp hu C
              go_wp2_with fail
              refine (unhide HC _).mono ?_
              rintro e w' ⟨rfl, rfl⟩
              go_wp2_with fail
              go_roundw
              case rel => exact ⟨j + 1, by omega, by go_num, hu2, trivial⟩
              case measure => simp [intOf]; omega
            · rw [hp] at HC
              have hu2 := hide ((unhide hu).trans (upto_stop (p := fun c => !bl c) hlt (by simp [hp])))
              clear hp hu C
              go_wp2_with fail
              refine (unhide HC _).mono ?_
              rintro e w' ⟨rfl, rfl⟩
              go_wp2_with fail
              go_ret
              exact ⟨by rw [unhide hu2]; rfl, rfl⟩
          · have hlt' : ¬ (j : Int) < (s.size : Int) := by omega
            have hu2 := hide ((unhide hu).trans (upto_end (p := fun c => !bl c) (by omega)))
            clear hu C
            go_wp2_with fail
            go_ret
            exact ⟨by rw [unhide hu2]; rfl, rfl⟩

theorem dg_eq (c : UInt8) : dg c = (decide ((48 : Int) ≤ (c.toNat : Int)) && decide ((c.toNat : Int) ≤ 57)) := by
  have h1 : (48 ≤ c) ↔ (48 : Int) ≤ (c.toNat : Int) := by rw [UInt8.le_iff_toNat_le, show (48 : UInt8).toNat = 48 from rfl]; omega
  have h2 : (c ≤ 57) ↔ (c.toNat : Int) ≤ 57 := by rw [UInt8.le_iff_toNat_le, show (57 : UInt8).toNat = 57 from rfl]; omega
  unfold dg
  rw [decide_eq_decide.2 h1, decide_eq_decide.2 h2]
theorem below_drew (w : World) : Below w.heap.size w w.drew := ⟨rfl, rfl, rfl, Nat.le_refl _, fun _ _ => rfl⟩
set_option maxHeartbeats 1000000 in
theorem cutDigits_any (s : ByteArray) (w : World) (hs : s.size ≤ 1073741824) :
    Calls Tryz.prog 162 #[.string s] w fun e w' => e = .returned (.tuple #[.string (Ln.bt (s.data.toList.takeWhile dg)), .string (Ln.bt (s.data.toList.dropWhile dg))]) ∧ Below w.heap.size w w' := by
  obtain ⟨n, hn⟩ : ∃ n, n = upto dg s.data.toList 0 := ⟨_, rfl⟩
  have hnl := (upto_le dg s.data.toList 0 (Nat.zero_le _)).2
  rw [← hn] at hnl
  have hnl2 : n ≤ s.size := hnl
  have e1 : Ln.bt (s.data.toList.takeWhile dg) = s.extract 0 n := by
    have := upto_take dg s.data.toList 0
    rw [← hn, List.drop_zero] at this
    rw [Ln.bt_extract, List.drop_zero, this]
  have e2 : Ln.bt (s.data.toList.dropWhile dg) = s.extract n s.size := by
    have := upto_drop dg s.data.toList 0
    rw [← hn, List.drop_zero] at this
    rw [Ln.bt_extract, ← this, List.take_of_length_le (by rw [List.length_drop]; exact Nat.le_refl _)]
  rw [e1, e2]
  have HN := hide hn
  clear e1 e2 hn hnl
  go_enter Tryz.func162, Tryz.ntmps162
  go_wp2
  go_loopw [4] (fun i wr => ∃ k : Nat, k ≤ s.size ∧ i = .int .i64 k ∧ Hid (n = upto dg s.data.toList k) ∧ wr = w) (fun i _ => s.size - (intOf i).toNat)
  case atStart => exact ⟨0, Nat.zero_le _, rfl, HN, rfl⟩
  case round =>
    clear HN
    obtain ⟨k, hk, rfl, hu, rfl⟩ := hrel
    by_cases hlt : k < s.size
    · have hlt' : (k : Int) < (s.size : Int) := by omega
      cases hp : dg s[k]
      · have hu2 := (unhide hu).trans (upto_stop hlt hp)
        clear hu
        subst hu2
        rw [dg_eq] at hp
        rcases (show ¬ (48 : Int) ≤ (s[n].toNat : Int) ∨ ((48 : Int) ≤ (s[n].toNat : Int) ∧ ¬ (s[n].toNat : Int) ≤ 57) by simp at hp; omega) with h1 | ⟨h1, h2⟩
        · clear hp
          go_wp2_with fail
          go_region
          go_wp2_with fail
          go_ret2
          exact ⟨rfl, below_drew _⟩
        · clear hp
          go_wp2_with fail
          go_region
          go_wp2_with fail
          go_ret2
          exact ⟨rfl, below_drew _⟩
      · have hu2 := hide ((unhide hu).trans (upto_step hlt hp))
        rw [dg_eq] at hp
        have h1 : (48 : Int) ≤ (s[k].toNat : Int) := by simp at hp; omega
        have h2 : (s[k].toNat : Int) ≤ 57 := by simp at hp; omega
        clear hp hu
        go_wp2_with fail
        go_roundw
        case rel => exact ⟨k + 1, by omega, by go_num, hu2, trivial⟩
        case measure => simp [intOf]; omega
    · have hlt' : ¬ (k : Int) < (s.size : Int) := by omega
      have hu2 := (unhide hu).trans (upto_end (by omega))
      clear hu
      subst hu2
      go_wp2_with fail
      go_region
      go_wp2_with fail
      go_ret2
      exact ⟨rfl, below_drew _⟩
end Go.Proofs.YtmpppdbomdepoaaGreatDoor.Ky
