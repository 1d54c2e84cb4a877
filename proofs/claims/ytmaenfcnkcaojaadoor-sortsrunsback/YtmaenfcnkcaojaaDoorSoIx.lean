/- What IndexAny answers for the blanks, of every text. -/
import Derived.Test.YtmaenfcnkcaojaaDoorSoSkip
import Derived.Test.YtmaenfcnkcaojaaDoorSoIxShelf
import Derived.Laws.Runes
import Derived.Laws.RangeAny
import Derived.WalkMore
import Derived.WalkSmall
import Derived.RangeFuncBox
namespace Go.Proofs.YtmaenfcnkcaojaaDoor.So
open Go.RowKit Go.Shelf Ky

attribute [local go_sem] Oper.semAt_some

abbrev twoB : ByteArray := { data := #[32, 9] }

theorem valid_any (r : Int) (w : World) (h : 128 ≤ r) :
    Calls Tryd.prog 58 #[.int .i32 r] w fun e w' => e = .returned (.bool (Utf8.valid r)) ∧ w' = w := by
  have h0 : (0 : Int) ≤ r := by omega
  by_cases h1 : r < 55296
  · have hv : Utf8.valid r = true := by rw [validRune_eq]; simp [validRune]; omega
    rw [hv]
    clear hv
    go_enter Tryd.func58, Tryd.ntmps58
    go_wp2_with fail
    go_ret
    exact ⟨rfl, rfl⟩
  by_cases h2 : 57343 < r
  · by_cases h3 : r ≤ 1114111
    · have hv : Utf8.valid r = true := by rw [validRune_eq]; simp [validRune]; omega
      rw [hv]
      clear hv
      go_enter Tryd.func58, Tryd.ntmps58
      go_wp2_with fail
      go_ret
      exact ⟨rfl, rfl⟩
    · have hv : Utf8.valid r = false := by rw [validRune_eq]; simp [validRune]; omega
      rw [hv]
      clear hv
      go_enter Tryd.func58, Tryd.ntmps58
      go_wp2_with fail
      go_ret
      exact ⟨rfl, rfl⟩
  · have hv : Utf8.valid r = false := by rw [validRune_eq]; simp [validRune]; omega
    rw [hv]
    clear hv
    go_enter Tryd.func58, Tryd.ntmps58
    go_wp2_with fail
    go_ret
    exact ⟨rfl, rfl⟩

set_option maxHeartbeats 2000000 in
set_option maxRecDepth 100000 in
theorem rune_none (r : Int) (w : World) (h : 128 ≤ r) (h2 : r ≤ 2147483647) :
    Calls Tryd.prog 38 #[.string twoB, .int .i32 r] w fun e w' => e = .returned (.int .i64 (-1)) ∧ Below w.heap.size w w' := by
  have h0 : (0 : Int) ≤ r := by omega
  have h1 : ¬ r < 128 := by omega
  by_cases he : r = 65533
  · subst he
    have n0 := fun ty => run_next_ascii (P := Tryd.prog) w twoB 0 ty (by decide) (by decide)
    have n1 := fun ty => run_next_ascii (P := Tryd.prog) w twoB 1 ty (by decide) (by decide)
    have n2 := fun ty => run_next_end (P := Tryd.prog) w twoB 2 ty
    go_enter Tryd.func38, Tryd.ntmps38
    go_wp2_with fail
    have s0 : (twoB[0].toNat : Int) = 32 := rfl
    have s1 : (twoB[1].toNat : Int) = 9 := rfl
    have n2' := fun ty => n2 ty (by decide)
    rw [s0] at n0
    rw [s1] at n1
    clear n2 s0 s1
    refine wp_loop_rounds 3 ?_
    rw [rounds_succ]
    go_wp2_with fail
    rw [rounds_succ]
    go_wp2_with fail
    rw [rounds_succ]
    go_wp2_with fail
    go_ret
    exact ⟨rfl, (Below.refl _ w).alloc (Nat.le_refl _) _⟩
  · have he' : (r == 65533) = false := beq_eq_false_iff_ne.2 he
    have V := hide (valid_any r w h)
    cases hv : Utf8.valid r
    · rw [hv] at V
      clear hv he
      go_enter Tryd.func38, Tryd.ntmps38
      go_wp2_with fail
      refine (unhide V).mono ?_
      rintro e w' ⟨rfl, rfl⟩
      clear V
      go_wp2_with fail
      go_ret
      exact ⟨rfl, Below.refl _ _⟩
    · rw [hv] at V
      obtain ⟨f1, f2, f3⟩ := encode_facts r hv h
      obtain ⟨rs, hrs⟩ : ∃ rs, rs = Utf8.encode r := ⟨_, rfl⟩
      have hcv : ∀ W, (convert 21 9 (.int .i32 r)).run Tryd.prog W = .ok (.string rs) W := fun W => by rw [hrs]; exact run_convert_int_string W 21 9 .i32 r (by rw [Tryd.underlying21]; rfl) Tryd.underlying9
      rw [← hrs] at f1 f2
      have f3' : ∀ h : rs.size - 1 < rs.size, 128 ≤ (rs[rs.size - 1]'h).toNat := by subst hrs; exact f3
      clear hv he hrs f3
      go_enter Tryd.func38, Tryd.ntmps38
      go_wp2_with fail
      refine (unhide V).mono ?_
      rintro e w' ⟨rfl, rfl⟩
      clear V
      by_cases h3 : rs.size = 2
      · have hl : (rs[1]'(by omega)).toNat ≥ 128 := by
          have := f3' (by omega)
          simp only [h3] at this
          exact this
        clear f3'
        have hne : ((9 : Int) == ((rs[1]'(by omega)).toNat : Int)) = false := beq_eq_false_iff_ne.2 (by omega)
        have hne2 : ((twoB[1].toNat : Int) == ((rs[1]'(by omega)).toNat : Int)) = false := hne
        have hne3 : ¬ (twoB[1].toNat : Int) = ((rs[1]'(by omega)).toNat : Int) := by show ¬ (9 : Int) = _; omega
        have X : Hid (∀ W, Calls Tryd.prog 57 #[.string ByteArray.empty, .int .u8 (rs[1]'(by omega)).toNat] W fun e w' => e = .returned (.int .i64 (-1)) ∧ w' = W) := fun W =>
          (Tryd.strings_IndexByte ByteArray.empty _ W).mono fun e w' q => ⟨by rw [q.1]; rfl, q.2⟩
        go_wp2_with fail
        go_step3
        go_wp2_with fail
        refine wp_loop_rounds 1 ?_
        rw [rounds_succ]
        go_wp2_with fail
        go_step3
        go_wp2_with fail
        go_quiet (fail)
        go_wp2_with fail
        have g1 : IntKind.i64.wrap 2 = 2 := IntWalk.i64_in _ (by omega)
        have g2 : IntKind.i64.wrap 1 = 1 := IntWalk.i64_in _ (by omega)
        go_quiet ((go_at_call 57; refine (unhide X _).mono ?_; rintro e w2 ⟨rfl, rfl⟩; exact ⟨rfl, _, rfl⟩))
        go_wp2_with fail
        simp only [Exit.noGoto_ret, Exit.inBlock, Exit.then]
        go_ret
        exact ⟨rfl, below_drewN (Below.refl _ _) _⟩
      · have h3' : 3 ≤ rs.size := by omega
        clear f3'
        have hge : ¬ (rs.size : Int) - 1 < 2 := by omega
        go_wp2_with fail
        go_step3
        go_wp2_with fail
        refine wp_loop_rounds 1 ?_
        rw [rounds_succ]
        go_wp2_with fail
        rw [Exit.noGoto_ret]
        go_ret
        exact ⟨rfl, Below.refl _ _⟩

/-- what a decoded rune takes lies in the text, and none of it is plain -/
theorem decode_span (s : ByteArray) (pos : Nat) (h : pos < s.size) (ha : 128 ≤ (s[pos]'h).toNat) :
    pos + (Utf8.decode s pos).2 ≤ s.size ∧ ∀ j, pos ≤ j → j < pos + (Utf8.decode s pos).2 → ∀ b, s.data.toList[j]? = some b → 128 ≤ b.toNat := by
  have hn : ¬ (s[pos]'h).toNat < 128 := by omega
  have hat : ∀ k b, s.data.toList[pos + k]? = some b → (s.get! (pos + k)).toNat = b.toNat := fun k b hb => by
    have hlt : pos + k < s.size := by have := (List.getElem?_eq_some_iff.1 hb).1; simpa using this
    have e := Lib.data_getElem? s (pos + k) hlt
    rw [hb] at e
    have e2 : b = s[pos + k] := Option.some.inj e
    have e3 : s.get! (pos + k) = s[pos + k] := by simp [ByteArray.get!, getElem!_pos, hlt]; rfl
    rw [e3, e2]
  have key : ∀ n, (∀ k, 1 ≤ k → k < n → pos + k < s.size ∧ (s.get! (pos + k)).toNat / 64 = 2) → pos + n ≤ s.size ∨ n = 0 → ∀ j, pos ≤ j → j < pos + n → ∀ b, s.data.toList[j]? = some b → 128 ≤ b.toNat := by
    intro n hk _ j h1 h2 b hb
    obtain ⟨k, rfl⟩ : ∃ k, j = pos + k := ⟨j - pos, by omega⟩
    by_cases h0 : k = 0
    · subst h0
      have e := Lib.data_getElem? s pos h
      rw [Nat.add_zero, e] at hb
      rw [← Option.some.inj hb]
      exact ha
    · have h3 := (hk k (by omega) (by omega)).2
      rw [hat k b hb] at h3
      omega
  have one : pos + 1 ≤ s.size ∧ ∀ j, pos ≤ j → j < pos + 1 → ∀ b, s.data.toList[j]? = some b → 128 ≤ b.toNat := ⟨by omega, key 1 (fun k h1 h2 => by omega) (.inl (by omega))⟩
  simp only [Utf8.decode, get_at s pos h, hn, if_false]
  split
  · rename_i hc
    simp only [Bool.and_eq_true, decide_eq_true_eq, beq_iff_eq] at hc
    split
    · refine ⟨by simp only []; omega, key 2 (fun k h1 h2 => ?_) (.inl (by omega))⟩
      obtain rfl : k = 1 := by omega
      exact hc.2
    · exact one
  · split
    · rename_i hc
      simp only [Bool.and_eq_true, decide_eq_true_eq, beq_iff_eq] at hc
      split
      · refine ⟨by simp only []; omega, key 3 (fun k h1 h2 => ?_) (.inl (by omega))⟩
        rcases (show k = 1 ∨ k = 2 by omega) with rfl | rfl
        · exact hc.1.2
        · exact hc.2
      · exact one
    · split
      · rename_i hc
        simp only [Bool.and_eq_true, decide_eq_true_eq, beq_iff_eq] at hc
        split
        · refine ⟨by simp only []; omega, key 4 (fun k h1 h2 => ?_) (.inl (by omega))⟩
          rcases (show k = 1 ∨ k = 2 ∨ k = 3 by omega) with rfl | rfl | rfl
          · exact hc.1.1.2
          · exact hc.1.2
          · exact hc.2
        · exact one
      · exact one

theorem next_at (W : World) (b : Nat) (s : ByteArray) (pos : Nat) (ty : TypeId) (hb : W.heap[b]? = some (.stringIter s pos)) (h : pos < s.size) :
    (Instr.next (.pointer (some ⟨b, 0, none⟩)) true ty).run Tryd.prog W = .ok (.tuple #[.bool true, .int .i64 pos, .int .i32 (Utf8.decode s pos).1]) (W.putObj b (.stringIter s (pos + (Utf8.decode s pos).2))) := by
  simp only [Instr.next, getObj, setObj, Sem.run_bind, Sem.run, hb, Result.andThen, h, if_true]
  simp [goInt, World.putObj]
theorem next_none (W : World) (b : Nat) (s : ByteArray) (pos : Nat) (ty : TypeId) (hb : W.heap[b]? = some (.stringIter s pos)) (h : ¬ pos < s.size) :
    (Instr.next (.pointer (some ⟨b, 0, none⟩)) true ty).run Tryd.prog W = .ok (.tuple #[.bool false]) W := by
  simp only [Instr.next, getObj, setObj, Sem.run_bind, Sem.run, hb, Result.andThen, h, if_false]
  rfl

set_option maxHeartbeats 2000000 in
set_option maxRecDepth 100000 in
/-- IndexAny of few bytes -/
theorem ix_short (s : ByteArray) (w : World) (h8 : s.size ≤ 8) :
    Calls Tryd.prog 20 #[.string s, .string twoB] w fun e w' => e = .returned (.int .i64 (Lib.indexAny s.data.toList [32, 9])) ∧ Below w.heap.size w w' := by
  have h8z : ¬ (8 : Int) < (s.size : Int) := by omega
  have U := hide (Tryd.strings_shouldUseASCIISet (s.size : Int) w)
  rw [decide_eq_false h8z] at U
  go_enter Tryd.func20, Tryd.ntmps20
  go_wp2_with fail
  refine (unhide U).mono ?_
  rintro e w' ⟨rfl, rfl⟩
  clear U
  go_wp2_with fail
  have hb0 : Hid ((w'.iter s 0).heap[w'.heap.size]? = some (.stringIter s 0)) := World.iter_heap w' s 0
  have hB0 : Hid (Below w'.heap.size w' (w'.iter s 0)) := (Below.refl _ w').alloc (Nat.le_refl _) _
  go_loopg [9, 10] s.size (fun g _ _ wx => ∃ i : Nat, i ≤ s.size ∧ s.size - i ≤ g ∧ Hid (wx.heap[w'.heap.size]? = some (.stringIter s i)) ∧ Hid (Below w'.heap.size w' wx) ∧ Hid (Lib.NoAny s.data.toList [32, 9] i))
  case atStart => exact ⟨0, by omega, by omega, hb0, hB0, Lib.NoAny.zero _ _⟩
  case round =>
    obtain ⟨i, hi, hig, hbx, hBx, hno⟩ := hrel
    by_cases hlt : i < s.size
    · obtain ⟨g, rfl⟩ : ∃ g, gk = g + 1 := ⟨gk - 1, by omega⟩
      obtain ⟨x, hx⟩ : ∃ x : UInt8, s[i]'hlt = x := ⟨_, rfl⟩
      have hxl : Hid (s.data.toList[i]? = some x) := by rw [← hx]; exact Lib.data_getElem? s i hlt
      have hnx := fun ty => next_at wr w'.heap.size s i ty (unhide hbx) hlt
      have hbl : w'.heap.size < wr.heap.size := (Array.getElem?_eq_some_iff.1 (unhide hbx)).1
      obtain ⟨W, hW⟩ : ∃ W, W = wr.putObj w'.heap.size (.stringIter s (i + (Utf8.decode s i).2)) := ⟨_, rfl⟩
      rw [← hW] at hnx
      have hbW : Hid (W.heap[w'.heap.size]? = some (.stringIter s (i + (Utf8.decode s i).2))) := by rw [hW]; exact World.putObj_heap_same hbl
      have hBW : Hid (Below w'.heap.size w' W) := (unhide hBx).trans (by
        rw [hW]
        exact ⟨rfl, rfl, rfl, (grownBy_putObj' wr w'.heap.size _).size, fun k hk => World.putObj_heap_other (by omega)⟩)
      have hszW : w'.heap.size < W.heap.size := (Array.getElem?_eq_some_iff.1 (unhide hbW)).1
      clear hW hbx hBx hb0 hB0
      by_cases hx128 : x.toNat < 128
      · rw [decode_ascii s i hlt (by rw [hx]; exact hx128)] at hnx hbW
        rw [hx] at hnx
        simp only at hnx hbW
        have C := hide (Tryd.strings_IndexRune_ascii twoB (x.toNat : Int) W (by omega) (by omega))
        have hback : ((x.toNat : Int)).toNat.toUInt8 = x := by simp
        rw [hback] at C
        clear hback hx
        by_cases hin : x = 32 ∨ x = 9
        · have hge : (0 : Int) ≤ Lib.indexByte twoB.data.toList x := by rcases hin with rfl | rfl <;> decide
          obtain ⟨v, hv⟩ : ∃ v, v = Lib.indexByte twoB.data.toList x := ⟨_, rfl⟩
          rw [← hv] at C hge
          have hr : Hid (Lib.indexAny s.data.toList [32, 9] = i) := Lib.indexAny_hit (unhide hno) (unhide hxl) (by rcases hin with rfl | rfl <;> decide)
          clear hv hin
          go_wp2_with fail
          refine (unhide C).mono ?_
          rintro e w2 ⟨rfl, rfl⟩
          clear C
          go_wp2_with fail
          go_ret
          exact ⟨by rw [unhide hr]; rfl, unhide hBW⟩
        · have hne : Lib.indexByte twoB.data.toList x = -1 := by
            have h1 : ¬ (32 : UInt8) = x := fun e => hin (.inl e.symm)
            have h2 : ¬ (9 : UInt8) = x := fun e => hin (.inr e.symm)
            simp [Lib.indexByte, h1, h2]
          rw [hne] at C
          have hno2 : Hid (Lib.NoAny s.data.toList [32, 9] (i + 1)) := (unhide hno).succ (unhide hxl) (by
            simp; exact ⟨fun e => hin (.inl e), fun e => hin (.inr e)⟩)
          clear hne hin
          go_wp2_with fail
          refine (unhide C).mono ?_
          rintro e w2 ⟨rfl, rfl⟩
          clear C
          go_wp2_with fail
          go_roundg g
          case measure => omega
          case rel => exact ⟨i + 1, by omega, by omega, hbW, hBW, hno2⟩
      · obtain ⟨d1, d2⟩ := decode_high s i hlt (by rw [hx]; omega)
        have d3 := decode_le s i
        obtain ⟨d4, d5⟩ := decode_span s i hlt (by rw [hx]; omega)
        obtain ⟨r, hr⟩ : ∃ r, r = (Utf8.decode s i).1 := ⟨_, rfl⟩
        obtain ⟨n, hn⟩ : ∃ n, n = (Utf8.decode s i).2 := ⟨_, rfl⟩
        rw [← hr] at hnx d1 d3
        rw [← hn] at hbW d2 d4 d5
        have C := hide (rune_none (r : Int) W (by omega) (by omega))
        have hno2 : Hid (Lib.NoAny s.data.toList [32, 9] (i + n)) := fun j b hj hb => by
          by_cases hji : j < i
          · exact unhide hno j b hji hb
          · have := d5 j (by omega) hj b hb
            simp
            exact ⟨fun e => by rw [e] at this; exact absurd this (by decide), fun e => by rw [e] at this; exact absurd this (by decide)⟩
        clear hr hn hx d5
        go_wp2_with fail
        refine (unhide C).mono ?_
        rintro e w2 ⟨rfl, hB2⟩
        have hbW2 : Hid (w2.heap[w'.heap.size]? = some (.stringIter s (i + n))) := (hB2.block _ hszW).trans (unhide hbW)
        have hBW2 : Hid (Below w'.heap.size w' w2) := (unhide hBW).trans (hB2.mono (unhide hBW).size)
        clear C hB2 hbW hBW
        go_wp2_with fail
        go_roundg g
        case measure => omega
        case rel => exact ⟨i + n, by omega, by omega, hbW2, hBW2, hno2⟩
    · obtain rfl : i = s.size := by omega
      have hnx := fun ty => next_none wr w'.heap.size s s.size ty (unhide hbx) hlt
      have hr : Hid (Lib.indexAny s.data.toList [32, 9] = -1) := Lib.indexAny_none (by rw [← Lib.size_eq]; exact unhide hno)
      go_wp2_with fail
      go_ret
      exact ⟨by rw [unhide hr]; rfl, unhide hBx⟩

theorem Tryd.zero256 : (Tryd.prog.info? 66).map (fun i => (i.zero, i.size)) = some (some (.agg (Array.replicate 256 (.bool false))), 256) := by kernel_rfl
theorem ix_all (t : Bs) (hl : t.length < 4294967281) : IxSays t := fun W => by
  by_cases h8 : t.length ≤ 8
  · exact ix_short (Ln.bt t) W h8
  · refine (Tryd.strings_IndexAny_long (zero_of_info Tryd.zero256).1 (Ln.bt t) { data := #[32, 9] } W (by decide) (by show 8 < t.length; omega) hl (by decide) (fun j b hb => ?_)).mono fun e w' q => ⟨by rw [q.1]; rfl, ?_⟩
    · have := List.mem_of_getElem? hb
      simp at this
      rcases this with rfl | rfl <;> decide
    · rw [q.2]
      exact ((Below.refl _ W).alloc (Nat.le_refl _) _).alloc (by simp) _
end Go.Proofs.YtmaenfcnkcaojaaDoor.So
