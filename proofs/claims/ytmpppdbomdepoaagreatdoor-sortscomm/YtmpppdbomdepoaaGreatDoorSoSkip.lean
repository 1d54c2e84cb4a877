/- What skipFields and skipBytes of the program answer, given what IndexAny answers. -/
import Derived.Test.YtmpppdbomdepoaaGreatDoorSoLines
import Derived.Test.YtmpppdbomdepoaaGreatDoorKyComp
import Derived.Lib.IndexAny
namespace Go.Proofs.YtmpppdbomdepoaaGreatDoor.So
open Go.RowKit Go.Shelf Ky

attribute [local go_sem] Oper.semAt_some

theorem skipF_nil2 : ∀ n, skipF n [] = []
  | 0 => rfl
  | n + 1 => by unfold skipF; exact skipF_nil2 n
theorem contains_bl2 (c : UInt8) : [(32 : UInt8), 9].contains c = bl c := by
  unfold bl
  by_cases h1 : c = 32
  · subst h1; rfl
  · by_cases h2 : c = 9
    · subst h2; rfl
    · simp [h1, h2]
/-- the first blank -/
theorem ix_drop : ∀ l : Bs, (Lib.indexAny l [32, 9] = -1 ∧ l.dropWhile (fun c => !bl c) = []) ∨ ∃ k : Nat, Lib.indexAny l [32, 9] = (k : Int) ∧ k ≤ l.length ∧ l.drop k = l.dropWhile (fun c => !bl c)
  | [] => .inl ⟨rfl, rfl⟩
  | c :: l => by
    have hi := ix_drop l
    simp only [Lib.indexAny, contains_bl2]
    cases hc : bl c
    · rcases hi with ⟨h1, h2⟩ | ⟨k, h1, h2, h3⟩
      · left
        refine ⟨by simp [h1], ?_⟩
        simp [hc, h2]
      · right
        refine ⟨k + 1, ?_, by simpa using h2, ?_⟩
        · rw [h1]
          have : ((k : Int) == -1) = false := by simp
          simp [this]
        · simp [hc, h3]
    · right
      exact ⟨0, by simp, by simp, by simp [hc]⟩
/-- what IndexAny is to answer for the blanks -/
def IxSays (t : Bs) : Prop := ∀ W : World, Calls Tryz.prog 135 #[.string (Ln.bt t), .string { data := #[32, 9] }] W fun e w' => e = .returned (.int .i64 (Lib.indexAny t [32, 9])) ∧ Below W.heap.size W w'
theorem suffix_part (t : Bs) : (t.dropWhile bl) <:+ t := List.dropWhile_suffix _
theorem part2_suffix (t : Bs) : part2 t <:+ t := (List.dropWhile_suffix _).trans (List.dropWhile_suffix _)
theorem bt_ne (t : Bs) : (Ln.bt t = ByteArray.empty) ↔ t = [] := by
  constructor
  · intro h
    have := congrArg (fun x => x.data.toList) h
    simpa [Ln.bt] using this
  · intro h; subst h; rfl

set_option maxRecDepth 100000 in
set_option maxHeartbeats 800000 in
theorem skipFields_any (s : Bs) (f : Int) (w : World) (hf : -9223372036854775808 ≤ f ∧ f ≤ 9223372036854775807) (hI : ∀ t, t <:+ s → IxSays t) :
    Calls Tryz.prog 114 #[.string (Ln.bt s), .int .i64 f] w fun e w' => e = .returned (.string (Ln.bt (skipF f.toNat s))) ∧ Below w.heap.size w w' := by
  have HI := hide hI
  clear hI
  obtain ⟨R, hR⟩ : ∃ R, R = Ln.bt (skipF f.toNat s) := ⟨_, rfl⟩
  rw [← hR]
  have HR := hide hR
  clear hR
  go_enter Tryz.func114, Tryz.ntmps114
  go_wp2_with fail
  go_loopw [0, 1] (fun v0 v1 wr => ∃ (t : Bs) (n : Int), v0 = .string (Ln.bt t) ∧ v1 = .int .i64 n ∧ -9223372036854775808 ≤ n ∧ n ≤ 9223372036854775807 ∧ Hid (t <:+ s) ∧ Hid (R = Ln.bt (skipF n.toNat t)) ∧ Hid (Below w.heap.size w wr)) (fun _ v1 _ => (intOf v1).toNat)
  case atStart => exact ⟨s, f, rfl, rfl, hf.1, hf.2, List.suffix_refl _, HR, Below.refl _ _⟩
  case round =>
    clear HR
    obtain ⟨t, n, rfl, rfl, hn1, hn2, hsf, hRn, hB⟩ := hrel
    by_cases hn : 0 < n
    · by_cases ht : t = []
      · have hR0 : Hid (R = Ln.bt t) := by have q := unhide hRn; rw [ht, skipF_nil2] at q; rw [ht]; exact q
        have hx : Ln.bt t = { data := #[] } := by rw [ht]; rfl
        rw [hx] at hR0 ⊢
        clear hRn ht hx hsf
        go_wp2_with fail
        go_ret
        exact ⟨by rw [unhide hR0]; rfl, unhide hB⟩
      · have htl : t.length ≤ s.length := (unhide hsf).length_le
        have C1 : Hid (∀ W, Calls Tryz.prog 134 #[.string (Ln.bt t), .string { data := #[32, 9] }] W fun e w' => e = .returned (.string (Ln.bt (t.dropWhile bl))) ∧ Below W.heap.size W w') := fun W => trimBlanks_any (Ln.bt t) W
        have C2 := hide (unhide HI _ ((suffix_part t).trans (unhide hsf)))
        have hsf2 := hide ((part2_suffix t).trans (unhide hsf))
        have hne : (Ln.bt t).toList.isEmpty = false := by
          rw [Go.ByteArray.toList_eq]
          cases t with
          | nil => exact absurd rfl ht
          | cons c l => simp [Ln.bt]
        have hp : Hid (part2 t = (t.dropWhile bl).dropWhile (fun c => !bl c)) := rfl
        have hRs : Hid (R = Ln.bt (skipF (n - 1).toNat (part2 t))) := by
          have q := unhide hRn
          rw [show n.toNat = (n - 1).toNat + 1 by omega] at q
          exact q
        have hul : (t.dropWhile bl).length ≤ t.length := dropWhile_le _
        have hix := ix_drop (t.dropWhile bl)
        unfold IxSays at C2
        generalize hu : t.dropWhile bl = u at *
        clear hRn hu
        obtain ⟨x, hxx⟩ : ∃ x, x = Ln.bt t := ⟨_, rfl⟩
        obtain ⟨z, hz⟩ : ∃ z, z = Ln.bt u := ⟨_, rfl⟩
        rw [← hxx] at hne C1 ⊢
        rw [← hz] at C1 C2
        have hzs : z.size = u.length := by rw [hz]; rfl
        have hzd : Hid (z.data.toList = u) := by rw [hz]; simp [Ln.bt, Hid]
        have hext : Hid (∀ k, z.extract k z.size = Ln.bt (u.drop k)) := fun k => by
          rw [Ln.bt_extract, unhide hzd, List.take_of_length_le (by rw [List.length_drop, hzs]; exact Nat.le_refl _)]
        clear hxx hz ht
        rcases hix with ⟨h1, h2⟩ | ⟨k, h1, h2, h3⟩
        · have hR0 : Hid (R = { data := #[] }) := by have q := unhide hRs; rw [unhide hp, h2, skipF_nil2] at q; exact q
          rw [h1] at C2
          clear h1 h2 hRs hp hext hzd
          go_wp2_with fail
          refine (unhide C1 _).mono ?_
          rintro e w2 ⟨rfl, b2⟩
          have hB2 := hide ((unhide hB).trans (b2.mono (unhide hB).size))
          clear b2 C1 hB
          go_wp2_with fail
          refine (unhide C2 _).mono ?_
          rintro e w3 ⟨rfl, b3⟩
          have hB3 := hide ((unhide hB2).trans (b3.mono (unhide hB2).size))
          clear b3 C2 hB2
          go_wp2_with fail
          go_ret
          exact ⟨by rw [unhide hR0]; rfl, unhide hB3⟩
        · rw [h1] at C2
          have hpk : Hid (z.extract k z.size = Ln.bt (part2 t)) := by show _ = _; rw [unhide hext k, unhide hp, h3]
          have hkz : k ≤ z.size := by omega
          have hk0 : (0 : Int) ≤ (k : Int) := by omega
          have hkz' : (k : Int) ≤ (z.size : Int) := by omega
          clear h1 h2 h3 hp hext hzd hzs
          go_wp2_with fail
          refine (unhide C1 _).mono ?_
          rintro e w2 ⟨rfl, b2⟩
          have hB2 := hide ((unhide hB).trans (b2.mono (unhide hB).size))
          clear b2 C1 hB
          go_wp2_with fail
          refine (unhide C2 _).mono ?_
          rintro e w3 ⟨rfl, b3⟩
          have hB3 := hide ((unhide hB2).trans (b3.mono (unhide hB2).size))
          clear b3 C2 hB2
          go_wp2_with fail
          go_roundw
          case rel => exact ⟨part2 t, n - 1, by rw [← unhide hpk], by go_num, by omega, by omega, hsf2, hRs, hB3⟩
          case measure => simp [intOf]; omega
    · have hR0 : Hid (R = Ln.bt t) := by have q := unhide hRn; rw [show n.toNat = 0 by omega] at q; exact q
      generalize Ln.bt t = x at *
      clear hRn
      go_wp2_with fail
      go_ret
      exact ⟨by rw [unhide hR0]; rfl, unhide hB⟩

set_option maxRecDepth 100000 in
set_option maxHeartbeats 400000 in
theorem skipBytes_any (s : ByteArray) (b : Int) (w : World) (hs : s.size ≤ 1073741824) (hb : -9223372036854775808 ≤ b ∧ b ≤ 9223372036854775807) :
    Calls Tryz.prog 113 #[.string s, .int .i64 b] w fun e w' => e = .returned (.string (Ln.bt (s.data.toList.drop b.toNat))) ∧ w' = w := by
  obtain ⟨k, hk⟩ : ∃ k : Nat, k = min b.toNat s.size := ⟨_, rfl⟩
  have e1 : Hid (Ln.bt (s.data.toList.drop b.toNat) = s.extract k s.size) := by
    show _ = _
    rw [Ln.bt_extract, List.take_of_length_le (by rw [List.length_drop]; exact Nat.le_refl _)]
    congr 1
    by_cases h : b.toNat ≤ s.size
    · rw [hk, Nat.min_eq_left h]
    · rw [hk, Nat.min_eq_right (by omega), List.drop_eq_nil_of_le (by show s.size ≤ _; omega), List.drop_eq_nil_of_le (by exact Nat.le_refl _)]
  rw [unhide e1]
  go_enter Tryz.func113, Tryz.ntmps113
  go_wp2_with fail
  go_ret
  exact ⟨by rw [show k = (min (max b 0) (s.size : Int)).toNat by omega]; rfl, rfl⟩
end Go.Proofs.YtmpppdbomdepoaaGreatDoor.So
