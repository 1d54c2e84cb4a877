/- GlobsLong answers true at every two numbers and every name. -/
import Derived.Test.YtelijbnamiefcaaGlMet
import Derived.Test.YtelijbnamiefcaaGlU8
namespace Go.Proofs.Ytelijbnamiefcaa.Gl
open Go.RowKit

def any1 : Th := thP 1 [63]
def sg (c : UInt8) : Th := if c = 42 then star else any1
theorem rdA_signs (s : Bs) (h : ∀ c ∈ s, c = 42 ∨ c = 63) : rdA s = some (s.map sg) := by
  induction s with
  | nil => rfl
  | cons c s ih =>
    have h2 := ih fun d hd => h d (by simp [hd])
    rcases h c (by simp) with e | e
    · subst e
      have hk : kindP (42 :: s) = (0, 1) := rfl
      rw [rdA_cons _ (by simp), hk]
      simp only [List.length_cons, List.take_succ_cons, List.take_zero, List.drop_succ_cons, List.drop_zero]
      rw [if_neg (by omega), h2]; rfl
    · subst e
      have hk : kindP (63 :: s) = (1, 1) := rfl
      rw [rdA_cons _ (by simp), hk]
      simp only [List.length_cons, List.take_succ_cons, List.take_zero, List.drop_succ_cons, List.drop_zero]
      rw [if_neg (by omega), h2]; rfl
theorem mt_signs (s : Bs) (h : ∀ c ∈ s, c = 42 ∨ c = 63) (n : Bs) : mt (s.map sg) n = if 42 ∈ s then decide (s.count 63 ≤ n.length) else decide (n.length = s.count 63) := by
  induction s generalizing n with
  | nil => cases n <;> simp [mt]
  | cons c s ih =>
    have ih := ih fun d hd => h d (by simp [hd])
    rw [List.map_cons]
    rcases h c (by simp) with e | e
    · subst e
      have hs : (sg 42).star = true := rfl
      rw [if_pos (by simp), List.count_cons_of_ne (by decide)]
      induction n with
      | nil =>
        rw [mt_star_nil hs, ih]
        split
        · rfl
        · rw [decide_eq_decide]; simp
          exact eq_comm
      | cons d n ihn =>
        rw [mt_star_cons hs, ihn, ih, Bool.eq_iff_iff]
        split
        · simp; omega
        · simp; omega
    · subst e
      have hs : (sg 63).star = false := rfl
      have hm : (42 ∈ (63 : UInt8) :: s) = (42 ∈ s) := by simp
      rw [List.count_cons_self]
      simp only [hm]
      cases n with
      | nil =>
        rw [mt_one_nil hs]
        split <;> simp
      | cons d n =>
        rw [mt_one_cons hs, ih, show (sg 63).p d = true from rfl, Bool.true_and]
        split <;> simp
def qL (k : Nat) : Nat → Bs
  | 0 => []
  | i + 1 => qL k i ++ (if i = k then [42, 63] else [63])
theorem qL_signs (k i : Nat) : ∀ c ∈ qL k i, c = 42 ∨ c = 63 := by
  induction i with
  | zero => intro c hc; simp [qL] at hc
  | succ i ih =>
    intro c hc
    rw [qL, List.mem_append] at hc
    rcases hc with hc | hc
    · exact ih c hc
    · split at hc
      · simp at hc; exact hc
      · simp at hc; exact .inr hc
theorem qL_count (k i : Nat) : (qL k i).count 63 = i := by
  induction i with
  | zero => rfl
  | succ i ih =>
    rw [qL, List.count_append, ih]
    split <;> simp
theorem qL_mem (k i : Nat) : 42 ∈ qL k i ↔ k < i := by
  induction i with
  | zero => simp [qL]
  | succ i ih =>
    rw [qL, List.mem_append, ih]
    split
    · simp; omega
    · simp; omega
theorem qL_len (k i : Nat) : (qL k i).length ≤ 2 * i := by
  induction i with
  | zero => simp [qL]
  | succ i ih =>
    rw [qL, List.length_append]
    split <;> simp <;> omega
theorem wrap_b8 (c : UInt8) : wrap64 (c.toNat : Int) = (c.toNat : Int) := by
  have := c.toNat_lt
  unfold wrap64; omega
/-- what the two patterns match -/
theorem match_p (P : ByteArray) (k : Nat) (n : Bs) (hP : bs P = List.replicate k 63) (hk : k ≤ 300) : matchP (bs P) n = decide (n.length = k) := by
  have hs : ∀ c ∈ bs P, c = 42 ∨ c = 63 := by rw [hP]; intro c hc; exact .inr (List.eq_of_mem_replicate hc)
  rw [match_small _ (by rw [hP, List.length_replicate]; omega) (rdA_signs _ hs), mt_signs _ hs, hP, if_neg (by simp), List.count_replicate_self]
theorem match_q (Q : ByteArray) (k m : Nat) (n : Bs) (hQ : ∀ c ∈ bs Q, c = 42 ∨ c = 63) (hm : 42 ∈ bs Q) (hc : (bs Q).count 63 = m) (hk : (bs Q).length ≤ k) (h4 : k ≤ 4096) : matchP (bs Q) n = decide (m ≤ n.length) := by
  rw [match_small _ (by omega) (rdA_signs _ hQ), mt_signs _ hQ, if_pos hm, hc]
set_option maxHeartbeats 1000000 in
set_option maxRecDepth 100000 in
theorem globsLong_any (x y : UInt8) (n : ByteArray) (w : World) (hn : n.size ≤ 4611686018427387904) :
    Calls Try.prog 8 #[.int .u8 x.toNat, .string n, .int .u8 y.toNat] w fun e w' => e = .returned (.bool true) ∧ Below w.heap.size w w' := by
  have HA := hide alive_any
  by_cases h1 : n.size ≤ 1000
  · have h1' : ¬ (1000 : Int) < (n.size : Int) := by omega
    have hx := wrap_b8 x
    have hy := wrap_b8 y
    have hx256 := x.toNat_lt
    have hy256 := y.toNat_lt
    generalize x.toNat = X at *
    generalize y.toNat = Y at *
    go_enter Try.func8, Try.ntmps8
    go_wp2_with fail
    refine (unhide HA _).mono ?_
    rintro e w1 ⟨rfl, b1⟩
    have B1 := hide b1
    clear b1
    go_wp2_with fail
    go_loopw [7, 8, 9] (fun v7 v8 v9 wr => ∃ (k : Nat) (P Q : ByteArray), k ≤ X ∧ v7 = .string P ∧ v8 = .string Q ∧ v9 = .int .i64 k ∧ wr = w1 ∧ Hid (bs P = List.replicate k 63) ∧ Hid (bs Q = qL Y k) ∧ P.size ≤ 300 ∧ Q.size ≤ 600) (fun _ _ v9 _ => X - (intOf v9).toNat)
    case atStart => exact ⟨0, { data := #[] }, { data := #[] }, by omega, rfl, rfl, rfl, rfl, rfl, rfl, by decide, by decide⟩
    case round =>
      obtain ⟨k, P, Q, hk, rfl, rfl, rfl, rfl, hP, hQ, hPs, hQs⟩ := hrel
      have s1 : (ByteArray.mk #[63]).size = 1 := rfl
      have s2 : (ByteArray.mk #[42]).size = 1 := rfl
      have hPk : P.size = k := by rw [← bs_len, unhide hP, List.length_replicate]
      have hQk : Q.size ≤ 2 * k := by rw [← bs_len, unhide hQ]; exact qL_len _ _
      have HPK := hide hPk
      have HQK := hide hQk
      have hc1 : ¬ 9223372036854775807 < P.size + 1 := by omega
      have hc2 : ¬ 9223372036854775807 < Q.size + 1 := by omega
      clear hPk hQk
      by_cases hlt : k < X
      · by_cases hky : k = Y
        · have hc3 : ¬ 9223372036854775807 < (Q ++ { data := #[42] }).size + 1 := by rw [size_app, s2]; omega
          have hP' : Hid (bs (P ++ { data := #[63] }) = List.replicate (k + 1) 63) := by
            show _ = _
            rw [bs_app, unhide hP, List.replicate_succ']
          have hQ' : Hid (bs (Q ++ { data := #[42] } ++ { data := #[63] }) = qL Y (k + 1)) := by
            show _ = _
            rw [bs_app, bs_app, unhide hQ, qL, if_pos hky, List.append_assoc]; rfl
          have z1 : Hid ((P ++ { data := #[63] }).size ≤ 300) := by
            show _ ≤ _
            have := unhide HPK
            rw [size_app, s1]; omega
          have z2 : Hid ((Q ++ { data := #[42] } ++ { data := #[63] }).size ≤ 600) := by
            show _ ≤ _
            have := unhide HQK
            rw [size_app, size_app, s1, s2]; omega
          have hky' : (k : Int) = (Y : Int) := by omega
          clear hP hQ hky
          go_wp2_with fail
          go_roundw
          case rel => exact ⟨k + 1, _, _, by omega, rfl, rfl, by go_num, by trivial, hP', hQ', unhide z1, unhide z2⟩
          case measure => simp [intOf]; omega
        · have hP' : Hid (bs (P ++ { data := #[63] }) = List.replicate (k + 1) 63) := by
            show _ = _
            rw [bs_app, unhide hP, List.replicate_succ']
          have hQ' : Hid (bs (Q ++ { data := #[63] }) = qL Y (k + 1)) := by
            show _ = _
            rw [bs_app, unhide hQ, qL, if_neg hky]
          have z1 : Hid ((P ++ { data := #[63] }).size ≤ 300) := by
            show _ ≤ _
            have := unhide HPK
            rw [size_app, s1]; omega
          have z2 : Hid ((Q ++ { data := #[63] }).size ≤ 600) := by
            show _ ≤ _
            have := unhide HQK
            rw [size_app, s1]; omega
          have hky' : ¬ (k : Int) = (Y : Int) := by omega
          clear hP hQ
          go_wp2_with fail
          go_roundw
          case rel => exact ⟨k + 1, _, _, by omega, rfl, rfl, by go_num, by trivial, hP', hQ', unhide z1, unhide z2⟩
          case measure => simp [intOf]; omega
      · have hkX : k = X := by omega
        rw [hkX] at hP hQ
        have HM1 := hide (fun W => match_below P n (decide (n.size = X)) W (by omega) hn (match_p P X (bs n) (unhide hP) (by omega)))
        have hd : Hid ((decide (n.size = X)) = ((n.size : Int) == (X : Int))) := by
          show _ = _
          rw [Bool.eq_iff_iff]; simp; omega
        obtain ⟨r, hr⟩ : ∃ r, r = decide (n.size = X) := ⟨_, rfl⟩
        have hr' : ((n.size : Int) == (X : Int)) = r := by rw [hr, unhide hd]
        rw [← hr] at HM1
        have HD : Hid (decide (X ≤ n.size) = decide ((X : Int) ≤ (n.size : Int))) := by
          show _ = _
          rw [decide_eq_decide]; omega
        obtain ⟨r2, hr2⟩ : ∃ r2, r2 = decide (X ≤ n.size) := ⟨_, rfl⟩
        have hr2' : decide ((X : Int) ≤ (n.size : Int)) = r2 := by rw [hr2, unhide HD]
        clear hr hd
        by_cases hXY : X ≤ Y
        · have hXY' : (X : Int) ≤ (Y : Int) := by omega
          have q1 : ∀ c ∈ bs (Q ++ { data := #[42] }), c = 42 ∨ c = 63 := by
            rw [bs_app, unhide hQ]
            intro c hc
            rw [List.mem_append] at hc
            rcases hc with hc | hc
            · exact qL_signs _ _ c hc
            · exact .inl (by simpa using hc)
          have q2 : 42 ∈ bs (Q ++ { data := #[42] }) := by
            rw [bs_app, List.mem_append]; exact .inr (by simp)
          have q3 : (bs (Q ++ { data := #[42] })).count 63 = X := by
            rw [bs_app, List.count_append, unhide hQ, qL_count]; rfl
          have q4 : (bs (Q ++ { data := #[42] })).length ≤ 600 := by
            have := unhide HQK
            rw [bs_len, size_app, s2]; omega
          have HM2 := hide (fun W => match_below (Q ++ { data := #[42] }) n r2 W (by rw [size_app, s2]; omega) hn (by rw [hr2, ← bs_len n]; exact match_q (Q ++ { data := #[42] }) 600 X (bs n) q1 q2 q3 q4 (by omega)))
          have HR2 := hide hr2
          clear q1 q2 q3 q4 hr2 hr2' hkX hP hQ HD
          cases r
          · go_wp2_with fail
            refine (unhide HM1 _).mono ?_
            rintro e w2 ⟨rfl, c2⟩
            have b2 := (unhide B1).trans (c2.mono (unhide B1).size)
            clear c2
            go_wp2_with fail
            refine (unhide HM2 _).mono ?_
            rintro e w3 ⟨rfl, c3⟩
            have b3 := b2.trans (c3.mono b2.size)
            clear c3
            cases r2
            · go_wp2_with fail
              go_ret
              refine ⟨congrArg (fun b => Ending.returned (.bool b)) ?_, b3⟩
              rw [← unhide HR2]; rfl
            · go_wp2_with fail
              go_ret
              refine ⟨congrArg (fun b => Ending.returned (.bool b)) ?_, b3⟩
              rw [← unhide HR2]
          · go_wp2_with fail
            refine (unhide HM1 _).mono ?_
            rintro e w2 ⟨rfl, c2⟩
            have b2 := (unhide B1).trans (c2.mono (unhide B1).size)
            clear c2
            go_wp2_with fail
            refine (unhide HM2 _).mono ?_
            rintro e w3 ⟨rfl, c3⟩
            have b3 := b2.trans (c3.mono b2.size)
            clear c3
            cases r2
            · go_wp2_with fail
              go_ret
              refine ⟨congrArg (fun b => Ending.returned (.bool b)) ?_, b3⟩
              rw [← unhide HR2]; rfl
            · go_wp2_with fail
              go_ret
              refine ⟨congrArg (fun b => Ending.returned (.bool b)) ?_, b3⟩
              rw [← unhide HR2]
        · have hXY' : ¬ (X : Int) ≤ (Y : Int) := by omega
          have q1 : ∀ c ∈ bs Q, c = 42 ∨ c = 63 := by rw [unhide hQ]; exact qL_signs _ _
          have q2 : 42 ∈ bs Q := by rw [unhide hQ, qL_mem]; omega
          have q3 : (bs Q).count 63 = X := by rw [unhide hQ, qL_count]
          have q4 : (bs Q).length ≤ 600 := by rw [bs_len]; omega
          have HM2 := hide (fun W => match_below Q n r2 W (by omega) hn (by rw [hr2, ← bs_len n]; exact match_q Q 600 X (bs n) q1 q2 q3 q4 (by omega)))
          have HR2 := hide hr2
          clear q1 q2 q3 q4 hr2 hr2' hkX hP hQ HD
          cases r
          · go_wp2_with fail
            refine (unhide HM1 _).mono ?_
            rintro e w2 ⟨rfl, c2⟩
            have b2 := (unhide B1).trans (c2.mono (unhide B1).size)
            clear c2
            go_wp2_with fail
            refine (unhide HM2 _).mono ?_
            rintro e w3 ⟨rfl, c3⟩
            have b3 := b2.trans (c3.mono b2.size)
            clear c3
            cases r2
            · go_wp2_with fail
              go_ret
              refine ⟨congrArg (fun b => Ending.returned (.bool b)) ?_, b3⟩
              rw [← unhide HR2]; rfl
            · go_wp2_with fail
              go_ret
              refine ⟨congrArg (fun b => Ending.returned (.bool b)) ?_, b3⟩
              rw [← unhide HR2]
          · go_wp2_with fail
            refine (unhide HM1 _).mono ?_
            rintro e w2 ⟨rfl, c2⟩
            have b2 := (unhide B1).trans (c2.mono (unhide B1).size)
            clear c2
            go_wp2_with fail
            refine (unhide HM2 _).mono ?_
            rintro e w3 ⟨rfl, c3⟩
            have b3 := b2.trans (c3.mono b2.size)
            clear c3
            cases r2
            · go_wp2_with fail
              go_ret
              refine ⟨congrArg (fun b => Ending.returned (.bool b)) ?_, b3⟩
              rw [← unhide HR2]; rfl
            · go_wp2_with fail
              go_ret
              refine ⟨congrArg (fun b => Ending.returned (.bool b)) ?_, b3⟩
              rw [← unhide HR2]
  · have h1' : (1000 : Int) < (n.size : Int) := by omega
    go_enter Try.func8, Try.ntmps8
    go_wp2_with fail
    refine (unhide HA _).mono ?_
    rintro e w1 ⟨rfl, b1⟩
    go_wp2_with fail
    refine (unhide HA _).mono ?_
    rintro e w2 ⟨rfl, c2⟩
    go_wp2_with fail
    go_ret
    exact ⟨rfl, b1.trans (c2.mono b1.size)⟩
end Go.Proofs.Ytelijbnamiefcaa.Gl
