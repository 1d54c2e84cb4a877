/- The law LinesBack's walk. -/
import Derived.Test.YtbamldjifempfaaLnAlive
import Derived.Test.YtbamldjifempfaaLnJoin
import Derived.Test.YtbamldjifempfaaBeyond
namespace Go.Proofs.Ytbamldjifempfaa.Ln
open Go.RowKit Go.Shelf Pa

theorem join_parts (l : List UInt8) : (parts isEnd l).flatMap (fun q => q.1 ++ [10]) = l ++ if (decide (0 < l.length) && !lastB (parts isEnd l)) = true then [10] else [] := by
  have hf := flat_parts (p := isEnd) (d := 10) (fun c hc => by
    have : c.toNat = 10 := by simpa [isEnd] using hc
    exact UInt8.toNat_inj.1 this) l
  rcases List.eq_nil_or_concat (parts isEnd l) with h | ⟨q, x, h⟩
  · have := parts_none _ h
    subst this
    simp [parts]
  · have he := parts_ends isEnd l q [x] (by rw [h]; simp) (by simp)
    have hl : l ≠ [] := fun e => by subst e; simp [parts] at h
    have e1 : lastB (parts isEnd l) = x.2 := by rw [h]; simp [lastB]
    have e2 : q.flatMap (fun q => q.1 ++ [10]) = flat 10 q := by
      unfold flat
      refine congrArg List.flatten ?_
      refine List.map_congr_left fun y hy => ?_
      rw [he y hy]; rfl
    have e3 : 0 < l.length := List.length_pos_iff.2 hl
    rw [e1]
    have hf' : flat 10 q ++ (x.1 ++ if x.2 then [10] else []) = l := by
      rw [← hf, h]; simp [flat]
    rw [h]
    simp only [List.concat_eq_append, List.flatMap_append, e2, List.flatMap_cons, List.flatMap_nil, List.append_nil]
    cases hx : x.2
    · rw [hx] at hf'
      simp at hf'
      rw [← hf']
      simp
      exact fun h1 h2 => hl (by rw [← hf', h1, h2]; rfl)
    · rw [hx] at hf'
      simp at hf'
      simp [hf']
theorem joinL_linesB (s : ByteArray) : joinL (linesB s) = s.data.toList ++ if (decide (0 < s.size) && !lastB (parts isEnd s.data.toList)) = true then [10] else [] := by
  have := join_parts s.data.toList
  rw [show s.data.toList.length = s.size from rfl] at this
  rw [← this]
  simp [joinL, linesB, bt, List.flatMap_map]
theorem linesB_clean (s x : ByteArray) (h : x ∈ linesB s) (k : Nat) (hk : k < x.size) : x[k].toNat ≠ 10 := by
  simp only [linesB, List.mem_map] at h
  obtain ⟨q, hq, rfl⟩ := h
  have := parts_clean (p := isEnd) s.data.toList q hq (bt q.1)[k] (by
    have : (bt q.1)[k] = q.1[k]'(by exact hk) := rfl
    rw [this]; exact List.getElem_mem _)
  simpa [isEnd] using this

theorem lines_len (s : ByteArray) : (linesB s).length ≤ s.size := by rw [linesB_len]; exact parts_len _ _
theorem lines_pos (s : ByteArray) : 0 < (linesB s).length ↔ 0 < s.size := by
  rw [linesB_len]
  constructor
  · intro h; exact Nat.lt_of_lt_of_le h (parts_len _ _)
  · intro h
    refine Nat.pos_of_ne_zero fun e => ?_
    have := parts_none _ (List.eq_nil_of_length_eq_zero e)
    have h2 : s.data.toList.length = s.size := rfl
    rw [this] at h2
    simp at h2
    omega
theorem mem_le_sum : ∀ (l : List (List UInt8 × Bool)) (q : List UInt8 × Bool), q ∈ l → sz q ≤ szs l
  | [], _, h => by simp at h
  | x :: l, q, h => by
    rcases List.mem_cons.1 h with rfl | h
    · simp [szs]
    · have := mem_le_sum l q h
      simp [szs] at this ⊢
      omega
theorem lines_size (s x : ByteArray) (h : x ∈ linesB s) : x.size ≤ s.size := by
  simp only [linesB, List.mem_map] at h
  obtain ⟨q, hq, rfl⟩ := h
  have h1 : sz q ≤ szs (parts isEnd s.data.toList) := by
    exact mem_le_sum _ _ hq
  rw [szs_parts] at h1
  have h2 : s.data.toList.length = s.size := rfl
  have h3 : (bt q.1).size = q.1.length := rfl
  unfold sz at h1
  omega
theorem tot_lines (s : ByteArray) : (linesB s).length + tot (linesB s) ≤ s.size + 1 := by
  have h1 := joinL_len (linesB s)
  rw [joinL_linesB, List.length_append] at h1
  have h2 : s.data.toList.length = s.size := rfl
  have h3 : (if (decide (0 < s.size) && !lastB (parts isEnd s.data.toList)) = true then [(10 : UInt8)] else []).length ≤ 1 := by split <;> simp
  omega

theorem three_ways (n : Nat) (b : Bool) : n = 0 ∨ (0 < n ∧ b = true) ∨ (0 < n ∧ b = false) := by
  rcases Nat.eq_zero_or_pos n with h | h
  · exact .inl h
  · cases b
    · exact .inr (.inr ⟨h, rfl⟩)
    · exact .inr (.inl ⟨h, rfl⟩)
theorem with_end (s : ByteArray) : (⟨(s.data.toList ++ [10]).toArray⟩ : ByteArray) = s ++ ({ data := #[10] } : ByteArray) := by
  apply ByteArray.ext
  apply Array.ext'
  simp [ByteArray.data_append]

set_option maxRecDepth 100000 in
set_option maxHeartbeats 1000000 in
theorem linesBack_any (s : ByteArray) (w : World) (hs : s.size ≤ maxLen) :
    Calls Try.prog 6 #[.string s] w fun e w' => e = .returned (.bool true) ∧ Below w.heap.size w w' := by
  have hs' : s.size ≤ 9223372036854775807 := by unfold maxLen at hs; omega
  go_enter Try.func6, Try.ntmps6
  go_wp2_with fail
  refine (alive_any w).mono ?_
  rintro e w0 ⟨rfl, hB0⟩
  go_wp2_with fail
  refine (Beyond.beyond_one (s.size : Int) w0.heap.size _ (by simp) (by omega) (by omega)).mono ?_
  rintro e w' ⟨rfl, rfl⟩
  have hB1 : Below w.heap.size w (w0.alloc (.cells #[.int .i64 s.size] 3)) := hB0.alloc hB0.size _
  generalize (w0.alloc (.cells #[.int .i64 s.size] 3)) = w1 at *
  clear hB0
  by_cases hb : 1048576 < (s.size : Int)
  · go_wp2_with fail
    refine (alive_any w1).mono ?_
    rintro e w2 ⟨rfl, hB2⟩
    go_wp2_with fail
    go_ret
    exact ⟨rfl, hB1.trans (hB2.mono hB1.size)⟩
  · have hs2 : s.size ≤ 1073741824 := by omega
    have C1 := hide (split_tx s w1 hs2)
    go_wp2_with fail
    refine (unhide C1).mono ?_
    rintro e w2 ⟨a, cap, rfl, hT, hb2⟩
    have hB2 : Below w.heap.size w w2 := hB1.trans (hb2.mono hB1.size)
    clear C1 hB1 hb2
    have HL := hide (linesB_clean s)
    have HJ := hide (join_any a _ cap _ w2 hT (by have := tot_lines s; omega))
    have hn1 := lines_len s
    have hn2 := lines_pos s
    have HSZ := hide (lines_size s)
    rw [joinL_linesB] at HJ
    generalize lastB (parts isEnd s.data.toList) = lb at *
    generalize linesB s = ss at *
    obtain ⟨n, hn⟩ : ∃ n, n = ss.length := ⟨_, rfl⟩
    rw [← hn] at hT HJ hn1 hn2 ⊢
    have HN := hide hn
    clear hn
    have HT := hide hT
    clear hT
    go_wp2_with fail
    go_loopw [5, 6] (fun i _ wr => ∃ k : Nat, k ≤ n ∧ i = .int .i64 k ∧ wr = w2) (fun i _ _ => n - (intOf i).toNat)
    case atStart => exact ⟨0, Nat.zero_le _, rfl, rfl⟩
    case round =>
      obtain ⟨k, hk, rfl, rfl⟩ := hrel
      by_cases hlt : k < n
      · have hlt' : (k : Int) < (n : Int) := by omega
        have hks : k < ss.length := by rw [← unhide HN]; exact hlt
        obtain ⟨x, hx⟩ : ∃ x, x = ss.getD k ByteArray.empty := ⟨_, rfl⟩
        have hxm : x ∈ ss := by rw [hx, List.getD, List.getElem?_eq_getElem hks]; exact List.getElem_mem _
        have hxs := unhide HSZ x hxm
        have HX := hide (unhide HL x hxm)
        rcases (unhide HT).cells with h0 | ⟨b, off, rfl, hbl, hc⟩
        · exfalso; omega
        · have hcx : wr.cell? ⟨b, off + k, none⟩ = some (.string x) := by rw [hx]; exact hc k hlt
          clear hx hxm hc hbl
          go_wp2_with fail
          go_loopw [6] (fun j wr' => ∃ m : Nat, m ≤ x.size ∧ j = .int .i64 m ∧ wr' = wr) (fun j _ => x.size - (intOf j).toNat)
          case atStart => exact ⟨0, Nat.zero_le _, rfl, rfl⟩
          case round =>
            obtain ⟨m, hm, rfl, hww⟩ := hrel
            subst hww
            by_cases hml : m < x.size
            · have hml' : (m : Int) < (x.size : Int) := by omega
              have hne : ¬ (x[m].toNat : Int) = 10 := by have := unhide HX m hml; omega
              go_wp2_with fail
              go_roundw
              case rel => exact ⟨m + 1, by omega, by go_num, by simp⟩
              case measure => simp [intOf]; omega
            · have hml' : ¬ (m : Int) < (x.size : Int) := by omega
              go_wp2_with fail
              go_roundw
              case rel => exact ⟨k + 1, by omega, by go_num, by simp⟩
              case measure => simp [intOf]; omega
      · have hkn : k = n := by omega
        subst hkn
        rcases three_ways s.size lb with h0 | ⟨h0, rfl⟩ | ⟨h0, rfl⟩
        · obtain rfl : k = 0 := by omega
          have es : (⟨(s.data.toList ++ if (decide (0 < s.size) && !lb) = true then [10] else []).toArray⟩ : ByteArray) = s := by rw [if_neg (by simp [h0])]; simp
          rw [es] at HJ
          have h0' : (s.size : Int) = 0 := by omega
          clear es
          go_wp2_with fail
          refine (unhide HJ).mono ?_
          rintro e w3 ⟨rfl, hb3⟩
          have hB3 : Below w.heap.size w w3 := hB2.trans (hb3.mono hB2.size)
          go_wp2_with fail
          go_ret
          exact ⟨rfl, hB3⟩
        · have es : (⟨(s.data.toList ++ if (decide (0 < s.size) && !true) = true then [10] else []).toArray⟩ : ByteArray) = s := by rw [if_neg (by simp)]; simp
          rw [es] at HJ
          have h0' : (0 : Int) < s.size := by omega
          have hk0 : (0 : Int) < k := by omega
          clear es
          go_wp2_with fail
          refine (unhide HJ).mono ?_
          rintro e w3 ⟨rfl, hb3⟩
          have hB3 : Below w.heap.size w w3 := hB2.trans (hb3.mono hB2.size)
          go_wp2_with fail
          go_ret
          exact ⟨rfl, hB3⟩
        · have h0' : (0 : Int) < s.size := by omega
          have hk0 : (0 : Int) < k := by omega
          have es : (if (decide (0 < s.size) && !false) = true then [(10 : UInt8)] else []) = [10] := by simp [h0]
          rw [es, with_end] at HJ
          clear es
          go_wp2_with fail
          refine (unhide HJ).mono ?_
          rintro e w3 ⟨rfl, hb3⟩
          have hB3 : Below w.heap.size w w3 := hB2.trans (hb3.mono hB2.size)
          go_wp2_with fail
          go_ret
          exact ⟨rfl, hB3⟩

end Go.Proofs.Ytbamldjifempfaa.Ln
