/- The law LinesTexts's walk. -/
import Derived.Test.YtbamldjifempfaaLnAlive
import Derived.Test.YtbamldjifempfaaLnJoin
import Derived.Test.YtbamldjifempfaaTextsSize
import Derived.Test.YtbamldjifempfaaBeyond
namespace Go.Proofs.Ytbamldjifempfaa.Ln
open Go.RowKit Go.Shelf Pa

def clean (x : ByteArray) : Prop := ∀ k (h : k < x.size), x[k].toNat ≠ 10
theorem parts_join (ss : List ByteArray) (h : ∀ x ∈ ss, clean x) : parts isEnd (joinL ss) = ss.map fun x => (x.data.toList, true) := by
  have h1 := parts_flat (p := isEnd) (d := 10) rfl (ss.map fun x => x.data.toList) (by
    intro y hy c hc
    obtain ⟨x, hx, rfl⟩ := List.mem_map.1 hy
    obtain ⟨k, hk, rfl⟩ := List.getElem_of_mem hc
    have := h x hx k hk
    show isEnd (x[k]'hk) = false
    simpa [isEnd] using this)
  rw [List.flatMap_map] at h1
  unfold joinL
  rw [h1, List.map_map]
  rfl
theorem linesB_join (ss : List ByteArray) (h : ∀ x ∈ ss, clean x) : linesB ⟨(joinL ss).toArray⟩ = ss := by
  unfold linesB
  rw [show (⟨(joinL ss).toArray⟩ : ByteArray).data.toList = joinL ss by simp, parts_join ss h, List.map_map]
  conv => rhs; rw [← List.map_id ss]
  refine List.map_congr_left fun x _ => ?_
  simp [bt]
theorem lastB_join (ss : List ByteArray) (h : ∀ x ∈ ss, clean x) : lastB (parts isEnd (⟨(joinL ss).toArray⟩ : ByteArray).data.toList) = decide (0 < ss.length) := by
  rw [show (⟨(joinL ss).toArray⟩ : ByteArray).data.toList = joinL ss by simp, parts_join ss h]
  rcases List.eq_nil_or_concat ss with rfl | ⟨q, x, rfl⟩
  · rfl
  · simp [lastB]

theorem tot_mem {ss : List ByteArray} {x : ByteArray} (h : x ∈ ss) : x.size ≤ tot ss := by
  induction ss with
  | nil => simp at h
  | cons s l ih =>
    simp only [tot]
    rcases List.mem_cons.1 h with rfl | h
    · omega
    · have := ih h; omega

set_option maxRecDepth 100000 in
set_option maxHeartbeats 1000000 in
theorem linesTexts_any (a : Option Addr) (n cap : Nat) (ss : List ByteArray) (w : World) (hT : Tx w a n cap ss) (hn : n ≤ 4611686018427387904) (hA : ∀ s ∈ ss, s.size ≤ 4611686018427387904) :
    Calls Try.prog 7 #[.slice a n cap] w fun e w' => e = .returned (.bool true) ∧ Below w.heap.size w w' := by
  have HT0 := hide hT
  have HA := hide hA
  clear hT hA
  go_enter Try.func7, Try.ntmps7
  go_wp2_with fail
  refine (alive_any w).mono ?_
  rintro e w0 ⟨rfl, hB0⟩
  have HT := hide ((unhide HT0).below hB0)
  clear HT0
  have HS := hide (textsSize_any a n cap ss w0 (unhide HT) hn (unhide HA))
  go_wp2_with fail
  refine (unhide HS).mono ?_
  rintro e w' ⟨⟨v, rfl, hv0, hv1, hv2⟩, rfl⟩
  have HV := hide hv2
  clear hv2 HS
  go_wp2_with fail
  refine (Beyond.beyond_one v w'.heap.size _ (by simp) (by omega) (by omega)).mono ?_
  rintro e w2 ⟨rfl, rfl⟩
  have hB1 : Below w.heap.size w (w'.alloc (.cells #[.int .i64 v] 3)) := hB0.alloc hB0.size _
  have HT1 := hide ((unhide HT).below ((Below.refl _ _).alloc (Nat.le_refl _) (.cells #[.int .i64 v] 3)))
  generalize (w'.alloc (.cells #[.int .i64 v] 3)) = w1 at *
  clear hB0 HT
  by_cases hb : 1048576 < v
  · go_wp2_with fail
    refine (alive_any w1).mono ?_
    rintro e w2 ⟨rfl, hB2⟩
    go_wp2_with fail
    go_ret
    exact ⟨rfl, hB1.trans (hB2.mono hB1.size)⟩
  · have htot : n + tot ss ≤ 1048576 := by have := unhide HV (by omega); omega
    have hlen := (unhide HT1).len
    have HLn := hide hlen
    have hn2 : n ≤ 1048576 := by omega
    have HSZ : Hid (∀ x ∈ ss, x.size ≤ 1048576) := fun x hx => by
      have := tot_mem hx
      omega
    clear HV HA hlen
    go_wp2_with fail
    go_loopw [3, 4] (fun i _ wr => ∃ k : Nat, k ≤ n ∧ i = .int .i64 k ∧ Hid (∀ j, j < k → clean (ss.getD j ByteArray.empty)) ∧ wr = w1) (fun i _ _ => n - (intOf i).toNat)
    case atStart => exact ⟨0, Nat.zero_le _, rfl, (fun j hj => by omega), rfl⟩
    case round =>
      obtain ⟨k, hk, rfl, hcl, rfl⟩ := hrel
      by_cases hlt : k < n
      · have hlt' : (k : Int) < (n : Int) := by omega
        have hks : k < ss.length := by rw [unhide HLn]; exact hlt
        obtain ⟨x, hx⟩ : ∃ x, x = ss.getD k ByteArray.empty := ⟨_, rfl⟩
        have hxm : x ∈ ss := by rw [hx, List.getD, List.getElem?_eq_getElem hks]; exact List.getElem_mem _
        have hxs := unhide HSZ x hxm
        rcases (unhide HT1).cells with h0 | ⟨b, off, rfl, hbl, hc⟩
        · exfalso; omega
        · have hcx : wr.cell? ⟨b, off + k, none⟩ = some (.string x) := by rw [hx]; exact hc k hlt
          have HX := hide hx
          clear hx hxm hc hbl
          go_wp2_with fail
          go_loopw [4] (fun j wr' => ∃ m : Nat, m ≤ x.size ∧ j = .int .i64 m ∧ Hid (∀ q (h : q < x.size), q < m → x[q].toNat ≠ 10) ∧ wr' = wr) (fun j _ => x.size - (intOf j).toNat)
          case atStart => exact ⟨0, Nat.zero_le _, rfl, (fun j _ hj => by omega), rfl⟩
          case round =>
            obtain ⟨m, hm, rfl, hcm, hww⟩ := hrel
            subst hww
            by_cases hml : m < x.size
            · have hml' : (m : Int) < (x.size : Int) := by omega
              by_cases hne : x[m].toNat = 10
              · have hne' : (x[m].toNat : Int) = 10 := by omega
                go_wp2_with fail
                go_ret
                exact ⟨rfl, hB1⟩
              · have hne' : ¬ (x[m].toNat : Int) = 10 := by omega
                have hcm2 : Hid (∀ q (h : q < x.size), q < m + 1 → x[q].toNat ≠ 10) := fun q h hq => by
                  by_cases e : q = m
                  · subst e; exact hne
                  · exact unhide hcm q h (by omega)
                clear hcm hne
                go_wp2_with fail
                go_roundw
                case rel => exact ⟨m + 1, by omega, by go_num, hcm2, by simp⟩
                case measure => simp [intOf]; omega
            · have hml' : ¬ (m : Int) < (x.size : Int) := by omega
              have hcl2 : Hid (∀ j, j < k + 1 → clean (ss.getD j ByteArray.empty)) := fun j hj => by
                by_cases e : j = k
                · subst e; rw [← unhide HX]; exact fun q h => unhide hcm q h (by omega)
                · exact unhide hcl j (by omega)
              clear hcl hcm
              go_wp2_with fail
              go_roundw
              case rel => exact ⟨k + 1, by omega, by go_num, hcl2, by simp⟩
              case measure => simp [intOf]; omega
      · have hkn : k = n := by omega
        subst hkn
        have hall : ∀ x ∈ ss, clean x := by
          intro x hx
          obtain ⟨j, hj, rfl⟩ := List.getElem_of_mem hx
          have := unhide hcl j (by rw [unhide HLn] at hj; exact hj)
          rwa [List.getD, List.getElem?_eq_getElem hj] at this
        have C1 := hide (join_any a k cap ss wr (unhide HT1) (by rw [unhide HLn]; omega))
        have C2 : Hid (∀ W : World, Calls Try.prog 25 #[.string ⟨(joinL ss).toArray⟩] W fun e w' => ∃ a' cap', e = .returned (.tuple #[.slice a' k cap', .bool (decide (0 < k))]) ∧ Tx w' a' k cap' ss ∧ Below W.heap.size W w') := fun W => by
          have h := split_is (linesB_join ss hall) (lastB_join ss hall) W (by
            have h1 := joinL_len ss
            have h2 : (⟨(joinL ss).toArray⟩ : ByteArray).size = (joinL ss).length := by simp [ByteArray.size]
            rw [h2, h1, unhide HLn]; omega)
          rwa [unhide HLn] at h
        clear hall hcl
        generalize (⟨(joinL ss).toArray⟩ : ByteArray) = xj at *
        go_wp2_with fail
        refine (unhide C1).mono ?_
        rintro e w3 ⟨rfl, hb3⟩
        have hB3 : Below w.heap.size w w3 := hB1.trans (hb3.mono hB1.size)
        have HT3 := hide ((unhide HT1).below hb3)
        clear C1 hb3 hB1 HT1
        go_wp2_with fail
        refine (unhide C2 _).mono ?_
        rintro e w4 ⟨a', cap', rfl, hT', hb4⟩
        have hB4 : Below w.heap.size w w4 := hB3.trans (hb4.mono hB3.size)
        have HT4 := hide ((unhide HT3).below hb4)
        have C3 := hide (sameTexts_any a' a k cap' cap cap' cap ss w4 (by omega) hT' (unhide HT4))
        clear C2 hb4 hB3 HT3 hT'
        go_wp2_with fail
        refine (unhide C3).mono ?_
        rintro e w5 ⟨rfl, hb5⟩
        have hB5 : Below w.heap.size w w5 := hB4.trans (hb5.mono hB4.size)
        go_wp2_with fail
        go_ret
        exact ⟨rfl, hB5⟩

end Go.Proofs.Ytbamldjifempfaa.Ln
