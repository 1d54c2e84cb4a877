/- What TrimPrefix, CutPrefix, IndexByte, bracketSize and cutThing answer. -/
import Derived.Test.YtelijbnamiefcaaGlBase
import Derived.Lib.Bytealg
namespace Go.Proofs.Ytelijbnamiefcaa.Gl
open Go.RowKit

theorem hasPrefix_any (s p : ByteArray) (w : World) (_hs : s.size ≤ 9223372036854775807) (_hp : p.size ≤ 100) :
    Calls Try.prog 47 #[.string s, .string p] w fun e w' => e = .returned (.bool (pre (bs p) (bs s))) ∧ w' = w := by
  by_cases h : p.size ≤ s.size
  · have h' : (p.size : Int) ≤ (s.size : Int) := by omega
    go_enter Try.func47, Try.ntmps47
    go_wp2
    go_ret
    refine ⟨congrArg (fun b => Ending.returned (.bool b)) ?_, rfl⟩
    show ((s.extract 0 p.size).toList == p.toList) = _
    rw [ByteArray.toList_eq, ByteArray.toList_eq]
    show (bs (s.extract 0 p.size) == bs p) = _
    rw [bs_to, pre, bs_len, Bool.eq_iff_iff]
    simp
  · have h' : ¬ (p.size : Int) ≤ (s.size : Int) := by omega
    go_enter Try.func47, Try.ntmps47
    go_wp2
    go_ret
    refine ⟨congrArg (fun b => Ending.returned (.bool b)) ?_, rfl⟩
    show false = _
    unfold pre
    symm
    rw [decide_eq_false_iff_not]
    intro e
    have := congrArg List.length e
    rw [List.length_take, bs_len, bs_len] at this
    omega
theorem cutPrefix_b (s p : ByteArray) (b : Bool) (w : World) (hs : s.size ≤ 9223372036854775807) (hp : p.size ≤ 100) (h : pre (bs p) (bs s) = b) :
    Calls Try.prog 44 #[.string s, .string p] w fun e w' => e = .returned (.tuple #[.string (if b = true then s.extract p.size s.size else s), .bool b]) ∧ w' = w := by
  have HH : Hid (∀ W, Calls Try.prog 47 #[.string s, .string p] W fun e w' => e = .returned (.bool b) ∧ w' = W) := fun W => h ▸ hasPrefix_any s p W hs hp
  cases b
  · clear h
    go_enter Try.func44, Try.ntmps44
    go_wp2_with (first | (go_at_call 47; refine (unhide HH _).mono ?_; rintro e w' ⟨rfl, rfl⟩) | (go_at_call 49; go_in))
    go_ret2
    exact ⟨rfl, rfl⟩
  · have hle : p.size ≤ s.size := by
      unfold pre at h
      have := congrArg List.length (of_decide_eq_true h)
      rw [List.length_take, bs_len, bs_len] at this
      omega
    clear h
    go_enter Try.func44, Try.ntmps44
    go_wp2_with (first | (go_at_call 47; refine (unhide HH _).mono ?_; rintro e w' ⟨rfl, rfl⟩) | (go_at_call 49; go_in))
    go_ret2
    exact ⟨rfl, rfl⟩

theorem trimPrefix_b (s p : ByteArray) (b : Bool) (w : World) (hs : s.size ≤ 9223372036854775807) (hp : p.size ≤ 100) (h : pre (bs p) (bs s) = b) :
    Calls Try.prog 35 #[.string s, .string p] w fun e w' => e = .returned (.string (if b = true then s.extract p.size s.size else s)) ∧ w' = w := by
  have HH : Hid (∀ W, Calls Try.prog 47 #[.string s, .string p] W fun e w' => e = .returned (.bool b) ∧ w' = W) := fun W => h ▸ hasPrefix_any s p W hs hp
  cases b
  · clear h
    go_enter Try.func35, Try.ntmps35
    go_wp2_with (first | (go_at_call 47; refine (unhide HH _).mono ?_; rintro e w' ⟨rfl, rfl⟩) | (go_at_call 41; go_in))
    go_ret
    exact ⟨rfl, rfl⟩
  · have hle : p.size ≤ s.size := by
      unfold pre at h
      have := congrArg List.length (of_decide_eq_true h)
      rw [List.length_take, bs_len, bs_len] at this
      omega
    clear h
    go_enter Try.func35, Try.ntmps35
    go_wp2_with (first | (go_at_call 47; refine (unhide HH _).mono ?_; rintro e w' ⟨rfl, rfl⟩) | (go_at_call 41; go_in))
    go_ret
    exact ⟨rfl, rfl⟩
theorem not_empty (u : ByteArray) (h : 0 < u.size) : u.toList.isEmpty = false := by
  rw [ByteArray.toList_eq, List.isEmpty_eq_false_iff]
  intro e
  have h2 : u.data.toList.length = u.size := rfl
  rw [e] at h2
  simp at h2
  omega
theorem is_empty (u : ByteArray) (h : u.size = 0) : u.toList.isEmpty = true := by
  rw [ByteArray.toList_eq, List.isEmpty_iff]
  exact List.eq_nil_of_length_eq_zero h
/-! ### the first place of a byte -/
theorem indexByte_idx (l : Bs) (c : UInt8) : Lib.indexByte l c = if l.idxOf c < l.length then (l.idxOf c : Int) else -1 := by
  induction l with
  | nil => simp [Lib.indexByte]
  | cons b l ih =>
    by_cases h : b = c
    · simp [h, Lib.indexByte]
    · have h1 : (b == c) = false := by simpa using h
      have h3 : (b :: l).idxOf c = l.idxOf c + 1 := by rw [List.idxOf_cons, h1]; rfl
      rw [Lib.indexByte, h1, h3, List.length_cons]
      simp only [Bool.false_eq_true, if_false]
      by_cases h2 : l.idxOf c < l.length
      · rw [if_pos h2] at ih
        have h4 : (Lib.indexByte l c == -1) = false := by rw [ih, beq_eq_false_iff_ne]; omega
        rw [h4, ih]; simp [h2]
      · rw [if_neg h2] at ih
        have h4 : (Lib.indexByte l c == -1) = true := by rw [ih]; rfl
        rw [h4]; simp [h2]
set_option maxHeartbeats 1000000 in
set_option maxRecDepth 100000 in
theorem indexByte_any (s : ByteArray) (c : UInt8) (w : World) :
    Calls Try.prog 36 #[.string s, .int .u8 c.toNat] w fun e w' => e = .returned (.int .i64 (Lib.indexByte (bs s) c)) ∧ w' = w := by
  have hrun : ∀ (w : World), Calls Try.prog 42 #[.string s, .int .u8 c.toNat] w fun e w' => e = .returned (.int .i64 (Lib.indexByte (bs s) c)) ∧ w' = w := by
    intro w
    go_enter Try.func42, Try.ntmps42
    go_wp2
    rw [run_callFunc_extern Try.func48 (by kernel_rfl) (by kernel_rfl) (by kernel_rfl) (e := Extern.BytealgIndexByte.indexByte) (by kernel_rfl), Lib.run_indexByteString]
    simp only [Result.andThen]
    rw [Oper.upon_value]
    go_wp2
    go_ret
    refine ⟨congrArg (fun b => Ending.returned (.int .i64 (Lib.indexByte (bs s) b))) ?_, rfl⟩
    simp
  have HR := hide hrun
  clear hrun
  go_enter Try.func36, Try.ntmps36
  go_wp2_with fail
  refine (unhide HR _).mono ?_
  rintro e w' ⟨rfl, rfl⟩
  go_wp2_with fail
  go_ret
  exact ⟨rfl, rfl⟩
set_option maxHeartbeats 400000 in
set_option maxRecDepth 100000 in
theorem bracketSize_any (s : ByteArray) (w : World) (h0 : 0 < s.size) (hs : s.size ≤ 5000) :
    Calls Try.prog 25 #[.string s] w fun e w' => e = .returned (.int .i64 (brk (bs s) : Int)) ∧ w' = w := by
  obtain ⟨t, ht⟩ : ∃ t, t = s.extract 1 s.size := ⟨_, rfl⟩
  have ht1 : bs t = (bs s).drop 1 := by rw [ht, bs_from]
  have hts : t.size = s.size - 1 := by rw [ht, size_from]
  obtain ⟨u, hu⟩ : ∃ u, u = (if bang (bs t) = true then t.extract 1 t.size else t) := ⟨_, rfl⟩
  have hu1 : bs u = unbang ((bs s).drop 1) := by
    rw [hu, ← ht1]; unfold unbang
    split
    · rw [bs_from]
    · rfl
  have hus : u.size ≤ s.size - 1 := by
    rw [hu]; split
    · rw [size_from]; omega
    · omega
  have HT : Hid (∀ W, Calls Try.prog 35 #[.string (s.extract 1 s.size), .string { data := #[33] }] W fun e w' => e = .returned (.string u) ∧ w' = W) := fun W => by
    rw [← ht, hu]
    exact trimPrefix_b t { data := #[33] } (bang (bs t)) W (by omega) (by decide) (pre_bang (bs t))
  have HB : Hid (brk (bs s) = match bs u with
      | [] => 0
      | _ :: r => if r.idxOf 93 < r.length then (bs s).length - (r.length + 1) + 1 + r.idxOf 93 + 1 else 0) := by
    rw [hu1]; rfl
  clear hu ht ht1 hts hu1
  by_cases hz : 0 < u.size
  · obtain ⟨r, hr⟩ : ∃ r, r = u.extract 1 u.size := ⟨_, rfl⟩
    have HI : Hid (∀ W, Calls Try.prog 36 #[.string (u.extract 1 u.size), .int .u8 93] W fun e w' => e = .returned (.int .i64 (Lib.indexByte (bs r) 93)) ∧ w' = W) := fun W => by
      rw [← hr]; exact indexByte_any r 93 W
    have hB2 : Hid (brk (bs s) = if (bs r).idxOf 93 < (bs r).length then s.size - u.size + 1 + (bs r).idxOf 93 + 1 else 0) := by
      show _ = _
      rw [unhide HB, bs_one u hz]
      simp only []
      have e1 : (bs u).drop 1 = bs r := by rw [hr, bs_from]
      have e2 : (bs r).length + 1 = u.size := by rw [bs_len, hr, size_from]; omega
      rw [e1, e2]
      rfl
    have hrl : (bs r).length = u.size - 1 := by rw [bs_len, hr, size_from]
    clear HB hr
    have hX := indexByte_idx (bs r) 93
    by_cases hin : (bs r).idxOf 93 < (bs r).length
    · rw [if_pos hin] at hX
      have hb3 : Hid (brk (bs s) = s.size - u.size + 1 + (bs r).idxOf 93 + 1) := by rw [unhide hB2, if_pos hin]; rfl
      rw [hX] at HI
      rw [hrl] at hin
      clear hB2 hX hrl
      generalize (bs r).idxOf 93 = i at *
      have hz' : u.toList.isEmpty = false := not_empty u hz
      have hui : (u.size : Int) ≤ s.size := by omega
      go_enter Try.func25, Try.ntmps25
      go_wp2_with (first | (go_at_call 35; refine (unhide HT _).mono ?_; rintro e w' ⟨rfl, rfl⟩) | (go_at_call 36; refine (unhide HI _).mono ?_; rintro e w' ⟨rfl, rfl⟩))
      go_ret
      refine ⟨?_, rfl⟩
      rw [unhide hb3]
      show Ending.returned (.int .i64 ((s.size : Int) - u.size + 1 + i + 1)) = _
      congr 2
      omega
    · rw [if_neg hin] at hX
      have hb3 : Hid (brk (bs s) = 0) := by rw [unhide hB2, if_neg hin]; rfl
      rw [hX] at HI
      clear hB2 hX hrl hin
      have hz' : u.toList.isEmpty = false := not_empty u hz
      go_enter Try.func25, Try.ntmps25
      go_wp2_with (first | (go_at_call 35; refine (unhide HT _).mono ?_; rintro e w' ⟨rfl, rfl⟩) | (go_at_call 36; refine (unhide HI _).mono ?_; rintro e w' ⟨rfl, rfl⟩))
      go_ret
      exact ⟨by rw [unhide hb3]; rfl, rfl⟩
  · have hb3 : Hid (brk (bs s) = 0) := by
      show _ = _
      have : bs u = [] := List.eq_nil_of_length_eq_zero (by rw [bs_len]; omega)
      rw [unhide HB, this]
    have hz' : u.toList.isEmpty = true := is_empty u (by omega)
    clear HB
    go_enter Try.func25, Try.ntmps25
    go_wp2_with (first | (go_at_call 35; refine (unhide HT _).mono ?_; rintro e w' ⟨rfl, rfl⟩))
    go_ret
    exact ⟨by rw [unhide hb3]; rfl, rfl⟩
/-- what cutThing hands back -/
def CutR (s : Bs) (e : Ending) : Prop := ∃ t r : ByteArray, e = .returned (.tuple #[.int .u8 ((kindP s).1 : Int), .string t, .string r, .bool (decide ((kindP s).2 ≤ s.length))]) ∧ ((kindP s).2 ≤ s.length → bs t = s.take (kindP s).2 ∧ bs r = s.drop (kindP s).2)
theorem kind_le (c : UInt8) (r : Bs) (h : c ≠ 92) : (kindP (c :: r)).2 ≤ (c :: r).length := by
  have hb := brk_le (c :: r)
  simp only [kindP, if_neg h]
  split
  · simp
  · split
    · simp
    · split
      · split
        · exact hb
        · simp
      · simp
set_option maxHeartbeats 1000000 in
set_option maxRecDepth 100000 in
theorem cutThing_any (s : ByteArray) (w : World) (h0 : 0 < s.size) (hs : s.size ≤ 5000) :
    Calls Try.prog 17 #[.string s] w fun e w' => CutR (bs s) e ∧ ∃ q, w' = w.drewN q := by
  have hone := bs_one s h0
  have fin : ∀ k n : Nat, kindP (bs s) = (k, n) → n ≤ s.size → ∀ e, e = .returned (.tuple #[.int .u8 (k : Int), .string (s.extract 0 n), .string (s.extract n s.size), .bool true]) → CutR (bs s) e := by
    intro k n hk hn e he
    refine ⟨s.extract 0 n, s.extract n s.size, ?_, fun _ => ?_⟩
    · rw [he, hk]
      simp only []
      rw [show (bs s).length = s.size from rfl, decide_eq_true hn]
    · rw [hk]; exact ⟨bs_to _ _, bs_from _ _⟩
  have HF := hide fin
  clear fin
  by_cases h42 : s[0] = 42
  · have hk : Hid (kindP (bs s) = (0, 1)) := by rw [hone, h42]; rfl
    have hc : (s[0].toNat : Int) = 42 := by rw [h42]; rfl
    clear hone h42
    go_enter Try.func17, Try.ntmps17
    go_wp2_with (fail)
    go_quiet (fail)
    rename_i nq
    go_wp2_with fail
    (try simp only [Exit.inBlock, Exit.then])
    refine bodyPost_ret (results_tmp4 rfl _ _ _) rfl ?_
    exact ⟨unhide HF 0 1 (unhide hk) (by omega) _ rfl, nq, rfl⟩
  · by_cases h63 : s[0] = 63
    · have hk : Hid (kindP (bs s) = (1, 1)) := by rw [hone, h63]; rfl
      have hc : (s[0].toNat : Int) = 63 := by rw [h63]; rfl
      clear hone h63 h42
      go_enter Try.func17, Try.ntmps17
      go_wp2_with (fail)
      go_quiet (fail)
      rename_i nq
      go_wp2_with fail
      (try simp only [Exit.inBlock, Exit.then])
      refine bodyPost_ret (results_tmp4 rfl _ _ _) rfl ?_
      exact ⟨unhide HF 1 1 (unhide hk) (by omega) _ rfl, nq, rfl⟩
    · by_cases h92 : s[0] = 92
      · have hk : Hid (kindP (bs s) = (2, 2)) := by rw [hone, h92]; rfl
        have hc : (s[0].toNat : Int) = 92 := by rw [h92]; rfl
        clear hone h63 h42 h92
        by_cases h2 : 2 ≤ s.size
        · have h2' : ¬ (s.size : Int) < 2 := by omega
          have h2'' : ¬ s.size < 2 := by omega
          go_enter Try.func17, Try.ntmps17
          go_wp2_with (fail)
          go_quiet (fail)
          rename_i nq
          go_wp2_with fail
          (try simp only [Exit.inBlock, Exit.then])
          refine bodyPost_ret (results_tmp4 rfl _ _ _) rfl ?_
          exact ⟨unhide HF 2 2 (unhide hk) (by omega) _ rfl, nq, rfl⟩
        · have h2' : (s.size : Int) < 2 := by omega
          have h2'' : s.size < 2 := by omega
          have HF2 : Hid (∀ e, e = .returned (.tuple #[.int .u8 2, .string { data := #[] }, .string { data := #[] }, .bool false]) → CutR (bs s) e) := by
            intro e he
            have e2 : (bs s).length = s.size := rfl
            refine ⟨{ data := #[] }, { data := #[] }, ?_, fun h => ?_⟩
            · rw [he, unhide hk]
              simp only []
              rw [e2, decide_eq_false (by omega)]
              rfl
            · rw [unhide hk, e2] at h; simp only [] at h; omega
          clear HF hk
          go_enter Try.func17, Try.ntmps17
          go_wp2_with fail
          (try simp only [Exit.inBlock, Exit.then])
          refine bodyPost_ret (results_tmp4 rfl _ _ _) rfl ?_
          exact ⟨unhide HF2 _ rfl, 0, rfl⟩
      · have n42 : ¬ (s[0].toNat : Int) = 42 := fun e => h42 (u8_eq e)
        have n63 : ¬ (s[0].toNat : Int) = 63 := fun e => h63 (u8_eq e)
        have n92 : ¬ (s[0].toNat : Int) = 92 := fun e => h92 (u8_eq e)
        by_cases h91 : s[0] = 91
        · have HB : Hid (∀ W, Calls Try.prog 25 #[.string s] W fun e w' => e = .returned (.int .i64 (brk (bs s) : Int)) ∧ w' = W) := fun W => bracketSize_any s W h0 hs
          have hk0 : kindP (bs s) = if 0 < brk (bs s) then (3, brk (bs s)) else (4, 1) := by
            rw [hone, h91]; rfl
          have hle := brk_le (bs s)
          rw [bs_len] at hle
          have hc : (s[0].toNat : Int) = 91 := by rw [h91]; rfl
          by_cases hb : 0 < brk (bs s)
          · have hk : Hid (kindP (bs s) = (3, brk (bs s))) := by rw [hk0, if_pos hb]; rfl
            have hb' : (0 : Int) < (brk (bs s) : Int) := by omega
            have hb2 : ¬ s.size < brk (bs s) := by omega
            clear hone h63 h42 h92 h91 hk0 n42 n63 n92
            generalize brk (bs s) = n at *
            go_enter Try.func17, Try.ntmps17
            go_wp2_with ((go_at_call 25; refine (unhide HB _).mono ?_; rintro e w2 ⟨rfl, rfl⟩))
            go_quiet (fail)
            rename_i nq
            go_wp2_with fail
            (try simp only [Exit.inBlock, Exit.then])
            refine bodyPost_ret (results_tmp4 rfl _ _ _) rfl ?_
            exact ⟨unhide HF 3 n (unhide hk) (by omega) _ rfl, nq, rfl⟩
          · have hk : Hid (kindP (bs s) = (4, 1)) := by rw [hk0, if_neg hb]; rfl
            have hb0 : brk (bs s) = 0 := by omega
            rw [hb0] at HB
            clear hone h63 h42 h92 h91 hk0 n42 n63 n92 hb hb0 hle
            go_enter Try.func17, Try.ntmps17
            go_wp2_with ((go_at_call 25; refine (unhide HB _).mono ?_; rintro e w2 ⟨rfl, rfl⟩))
            go_quiet (fail)
            rename_i nq
            go_wp2_with fail
            (try simp only [Exit.inBlock, Exit.then])
            refine bodyPost_ret (results_tmp4 rfl _ _ _) rfl ?_
            exact ⟨unhide HF 4 1 (unhide hk) (by omega) _ rfl, nq, rfl⟩
        · have n91 : ¬ (s[0].toNat : Int) = 91 := fun e => h91 (u8_eq e)
          have hk : Hid (kindP (bs s) = (4, 1)) := by
            rw [hone]
            show kindP _ = _
            simp only [kindP, if_neg h42, if_neg h63, if_neg h92, if_neg h91]
          clear hone h63 h42 h92 h91
          go_enter Try.func17, Try.ntmps17
          go_wp2_with (fail)
          go_quiet (fail)
          rename_i nq
          go_wp2_with fail
          (try simp only [Exit.inBlock, Exit.then])
          refine bodyPost_ret (results_tmp4 rfl _ _ _) rfl ?_
          exact ⟨unhide HF 4 1 (unhide hk) (by omega) _ rfl, nq, rfl⟩
end Go.Proofs.Ytelijbnamiefcaa.Gl
