/- PathsSplit walked. -/
import Derived.Test.YthmoinagfooncaaDoorPtLives
namespace Go.Proofs.YthmoinagfooncaaDoor.Pt
open Go.RowKit Go.Proofs.YthmoinagfooncaaDoor.Cu Go.Proofs.YthmoinagfooncaaDoor.Tr Go.Proofs.YthmoinagfooncaaDoor.Pm

theorem dir_len (s : Bs) : (dirB s).length ≤ s.length + 1 := by
  unfold dirB
  split
  · have h1 := bare_le ((bareB s).take (lastB (bareB s)))
    have h2 := bare_le s
    rw [List.length_take] at h1
    omega
  · split <;> simp
theorem base_len (s : Bs) : (baseB s).length ≤ s.length + 1 := by
  unfold baseB
  split
  · simp
  split
  · simp
  · have h2 := bare_le s
    rw [List.length_drop]
    omega
theorem join_len (p n : Bs) : (joinB p n).length ≤ p.length + n.length + 1 := by
  unfold joinB
  split <;> simp <;> omega
theorem bneL (l : Bs) : (l != l) = false := by simp
theorem base_tx (c : Bs) (w : World) (hs : c.length ≤ 1000000000) : Calls Tryd.prog 8 #[.string (tx c)] w fun e w' => e = .returned (.string (tx (baseB c))) ∧ w' = w := by
  have := base_any (tx c) w (by rw [size_tx]; exact hs)
  rw [bs_tx] at this; exact this
theorem dir_tx (c : Bs) (w : World) (hs : c.length ≤ 1000000000) : Calls Tryd.prog 10 #[.string (tx c)] w fun e w' => e = .returned (.string (tx (dirB c))) ∧ w' = w := by
  have := dir_any (tx c) w (by rw [size_tx]; exact hs)
  rw [bs_tx] at this; exact this
theorem join_tx (c d : Bs) (w : World) (hs : c.length ≤ 1000000000) (hd : d.length ≤ 1000000000) : Calls Tryd.prog 12 #[.string (tx c), .string (tx d)] w fun e w' => e = .returned (.string (tx (joinB c d))) ∧ w' = w := by
  have := join_any (tx c) (tx d) w (by rw [size_tx]; exact hs) (by rw [size_tx]; exact hd)
  rw [bs_tx, bs_tx] at this; exact this
theorem tx_bs (s : ByteArray) : tx (bs s) = s := by simp [tx, bs]
set_option maxRecDepth 100000 in
set_option maxHeartbeats 2000000 in
theorem split_law (s t : ByteArray) (w : World) (hs : s.size ≤ 140737488355328) (ht : t.size ≤ 140737488355328) :
    Calls Tryd.prog 6 #[.string s, .string t] w fun e w' => e = .returned (.bool true) ∧ Below w.heap.size w w' := by
  have HL := hide (fun W => lives_any W)
  by_cases h0 : 50000 < s.size + t.size
  · have h0' : (50000 : Int) < (s.size : Int) + (t.size : Int) := by omega
    go_enter Tryd.func6, Tryd.ntmps6
    go_wp2_with fail
    refine (unhide HL _).mono ?_
    rintro e w1 ⟨rfl, b1⟩
    have HB := hide b1
    clear b1
    go_wp2_with fail
    go_ret
    exact ⟨rfl, unhide HB⟩
  have h0' : ¬ (50000 : Int) < (s.size : Int) + (t.size : Int) := by omega
  have hls : (bs s).length = s.size := rfl
  have hlt : (bs t).length = t.size := rfl
  have hdl := dir_len (bs s)
  have hbl := base_len (bs s)
  have hjl := join_len (dirB (bs s)) (baseB (bs s))
  have HD1 : Hid (∀ W, Calls Tryd.prog 10 #[.string s] W fun e w' => e = .returned (.string (tx (dirB (bs s)))) ∧ w' = W) := fun W => dir_any s W (by omega)
  have HB1 : Hid (∀ W, Calls Tryd.prog 8 #[.string s] W fun e w' => e = .returned (.string (tx (baseB (bs s)))) ∧ w' = W) := fun W => base_any s W (by omega)
  have HJ1 : Hid (∀ W, Calls Tryd.prog 12 #[.string (tx (dirB (bs s))), .string (tx (baseB (bs s)))] W fun e w' => e = .returned (.string (tx (joinB (dirB (bs s)) (baseB (bs s))))) ∧ w' = W) := fun W => join_tx _ _ W (by omega) (by omega)
  have HB2 : Hid (baseB (bs s) ≠ [47] → ∀ W, Calls Tryd.prog 8 #[.string (tx (joinB (dirB (bs s)) (baseB (bs s))))] W fun e w' => e = .returned (.string (tx (baseB (bs s)))) ∧ w' = W) := fun h W => by
    have := base_tx (joinB (dirB (bs s)) (baseB (bs s))) W (by omega)
    rw [(split_one (bs s) h).1] at this; exact this
  have HD2 : Hid (baseB (bs s) ≠ [47] → ∀ W, Calls Tryd.prog 10 #[.string (tx (joinB (dirB (bs s)) (baseB (bs s))))] W fun e w' => e = .returned (.string (tx (dirB (bs s)))) ∧ w' = W) := fun h W => by
    have := dir_tx (joinB (dirB (bs s)) (baseB (bs s))) W (by omega)
    rw [(split_one (bs s) h).2] at this; exact this
  have HJ3 : Hid (∀ W, Calls Tryd.prog 12 #[.string s, .string t] W fun e w' => e = .returned (.string (tx (joinB (bs s) (bs t)))) ∧ w' = W) := fun W => join_any s t W (by omega) (by omega)
  have HB3 : Hid (bs t ≠ [] → (∀ x ∈ bs t, x ≠ 47) → ∀ W, Calls Tryd.prog 8 #[.string (tx (joinB (bs s) (bs t)))] W fun e w' => e = .returned (.string t) ∧ w' = W) := fun h1 h2 W => by
    have hjl := join_len (bs s) (bs t)
    have := base_tx (joinB (bs s) (bs t)) W (by omega)
    rw [base_join (bs s) (bs t) h1 h2, tx_bs] at this; exact this
  have hb47 : ((tx (baseB (bs s))).toList == [47]) = decide (baseB (bs s) = [47]) := by
    rw [ByteArray.toList_eq]
    show (bs (tx _) == [47]) = _
    rw [bs_tx, Bool.eq_iff_iff]; simp
  have HQ : Hid (∀ j (h : j < t.size), t[j].toNat = ((bs t).getD j 0).toNat) := fun j h => by
    have e := Lib.data_getElem? t j h
    simp [bs, List.getD, e]
  generalize tx (joinB (bs s) (bs t)) = q3 at *
  generalize tx (joinB (dirB (bs s)) (baseB (bs s))) = q1 at *
  generalize tx (dirB (bs s)) = td at *
  obtain ⟨B, hB⟩ : ∃ B, B = baseB (bs s) := ⟨_, rfl⟩
  rw [← hB] at HB1 HJ1 HB2 HD2 hb47
  generalize tx B = tb at *
  clear hdl hbl hjl hls hB
  go_enter Tryd.func6, Tryd.ntmps6
  go_upto_region 4 with (first | (go_at_call 10; refine (unhide HD1 _).mono ?_; rintro r x7 ⟨rfl, hw⟩; rw [hw]; clear hw x7) | (go_at_call 8; refine (unhide HB1 _).mono ?_; rintro r x7 ⟨rfl, hw⟩; rw [hw]; clear hw x7) | (go_at_call 12; refine (unhide HJ1 _).mono ?_; rintro r x7 ⟨rfl, hw⟩; rw [hw]; clear hw x7))
  go_cut [35] (fun v wx => v = .bool false ∧ wx = w)
  case first =>
    by_cases h47 : B = [47]
    · have hq : (tb.toList == [47]) = true := by rw [hb47]; exact decide_eq_true h47
      have hq2 : (tb.toList != [47]) = false := by simp [bne, hq]
      go_wp2_with (go_at_call 8; refine (unhide HB1 _).mono ?_; rintro r x7 ⟨rfl, hw⟩; rw [hw]; clear hw x7)
      go_meet
      exact ⟨rfl, rfl⟩
    · have hq : (tb.toList == [47]) = false := by rw [hb47]; exact decide_eq_false h47
      have hq2 : (tb.toList != [47]) = true := by simp [bne, hq]
      have hbb := bneL tb.toList
      have hdd := bneL td.toList
      have HB2' := hide (unhide HB2 h47)
      have HD2' := hide (unhide HD2 h47)
      go_wp2_with (first | (go_at_call 8; first | ((with_reducible refine (unhide HB1 _).mono ?_); rintro r x7 ⟨rfl, hw⟩; rw [hw]; clear hw x7) | ((with_reducible refine (unhide HB2' _).mono ?_); rintro r x7 ⟨rfl, hw⟩; rw [hw]; clear hw x7)) | (go_at_call 10; first | ((with_reducible refine (unhide HD1 _).mono ?_); rintro r x7 ⟨rfl, hw⟩; rw [hw]; clear hw x7) | ((with_reducible refine (unhide HD2' _).mono ?_); rintro r x7 ⟨rfl, hw⟩; rw [hw]; clear hw x7)))
      go_meet
      exact ⟨rfl, rfl⟩
  case rest =>
    obtain ⟨rfl, rfl⟩ := hcut
    clear HD1 HB1 HJ1 HB2 HD2 hb47
    go_wp2_with fail
    go_loopw [6] (fun x wr => ∃ i : Nat, i ≤ t.size ∧ x = .int .i64 i ∧ wr = wc ∧ Hid (∀ j, j < i → (bs t).getD j 0 ≠ 47)) (fun x _ => t.size - (intOf x).toNat)
    case atStart => exact ⟨0, Nat.zero_le _, rfl, rfl, fun j hj => by omega⟩
    case round =>
      obtain ⟨i, hi, rfl, rfl, HI⟩ := hrel
      by_cases hlt' : i < t.size
      · have hi' : (i : Int) < (t.size : Int) := by omega
        by_cases h47 : (bs t).getD i 0 = 47
        · have hx : (t[i].toNat : Int) = 47 := by rw [unhide HQ i hlt', h47]; rfl
          go_wp2_with fail
          refine (unhide HL _).mono ?_
          rintro e w1 ⟨rfl, b1⟩
          have HB := hide b1
          clear b1
          go_wp2_with fail
          go_ret
          exact ⟨rfl, unhide HB⟩
        · have hx : ¬ (t[i].toNat : Int) = 47 := by
            rw [unhide HQ i hlt']
            exact fun e => h47 (UInt8.toNat_inj.1 (by show _ = 47; omega))
          go_wp2_with fail
          go_roundw
          case rel =>
            refine ⟨i + 1, by omega, by go_num, trivial, fun j hj => ?_⟩
            by_cases ej : j = i
            · rw [ej]; exact h47
            · exact unhide HI j (by omega)
          case measure => simp [intOf]; omega
      · obtain rfl : i = t.size := by omega
        have hno : ∀ x ∈ bs t, x ≠ 47 := by
          intro x hx
          obtain ⟨j, hj, rfl⟩ := List.getElem_of_mem hx
          have := unhide HI j hj
          simpa [List.getD, List.getElem?_eq_getElem hj] using this
        by_cases hz : bs t = []
        · have hq := (s_beq t).trans (decide_eq_true hz)
          clear HI hno hz HB3
          go_wp2_with fail
          refine (unhide HL _).mono ?_
          rintro e w1 ⟨rfl, b1⟩
          have HB := hide b1
          clear b1
          go_wp2_with fail
          go_ret
          exact ⟨rfl, unhide HB⟩
        · have hq := (s_beq t).trans (decide_eq_false hz)
          have HB4 := hide (unhide HB3 hz hno)
          have htt : (t.toList == t.toList) = true := by simp
          clear HI hno hz HB3
          go_wp2_with (first | (go_at_call 12; refine (unhide HJ3 _).mono ?_; rintro r x7 ⟨rfl, hw⟩; rw [hw]; clear hw x7) | (go_at_call 8; refine (unhide HB4 _).mono ?_; rintro r x7 ⟨rfl, hw⟩; rw [hw]; clear hw x7))
          refine (unhide HL _).mono ?_
          rintro e w1 ⟨rfl, b1⟩
          have HB := hide b1
          clear b1
          go_wp2_with fail
          go_ret
          exact ⟨rfl, unhide HB⟩
end Go.Proofs.YthmoinagfooncaaDoor.Pt
