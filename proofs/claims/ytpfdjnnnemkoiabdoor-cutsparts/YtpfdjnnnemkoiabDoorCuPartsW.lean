/- The walk of CutsParts. -/
import Derived.Test.YtpfdjnnnemkoiabDoorCuAlive
namespace Go.Proofs.YtpfdjnnnemkoiabDoor.Cu
open Go.RowKit Go.Shelf
open Pa (Tx)

theorem getD_drop (s : Bs) (a j : Nat) : (s.drop a).getD j 0 = s.getD (a + j) 0 := by simp [List.getD, List.getElem?_drop]
theorem fold_at (m : Nat) (bl : Bool) (s : Bs) (hm : 1 ≤ m) (l : List Bs) (a i : Nat) (h : foldL m bl (s.drop a) = l.drop i) (hi : i < l.length) (ha : a ≤ s.length) :
    ∃ k, l.getD i [] = (s.drop a).take k ∧ (l.getD i []).length = k ∧ k ≤ m ∧ a + k ≤ s.length ∧
      ((i + 1 = l.length ∧ a + k = s.length) ∨ (i + 1 < l.length ∧ 1 ≤ k ∧ a + m < s.length ∧ foldL m bl (s.drop (a + k)) = l.drop (i + 1) ∧ (bl = false → k = m) ∧ (bl = true → (k = m ∨ blk (s.getD (a + (k - 1)) 0) = true) ∧ ∀ j, k ≤ j → j < m → blk (s.getD (a + j) 0) = false))) := by
  have hd : l.drop i = l.getD i [] :: l.drop (i + 1) := by rw [List.drop_eq_getElem_cons hi]; simp [List.getD, List.getElem?_eq_getElem hi]
  rw [hd] at h
  by_cases hl : m < (s.drop a).length
  · rw [foldL_step m bl _ hm hl] at h
    obtain ⟨h1, h2⟩ := List.cons.inj h
    have hp := psize_le m bl (s.drop a) hm
    rw [List.length_drop] at hl
    refine ⟨psize m bl (s.drop a), h1.symm, by rw [← h1, List.length_take, List.length_drop]; omega, hp.2, by omega, .inr ⟨?_, hp.1, by omega, by rw [← h2, List.drop_drop], ?_, ?_⟩⟩
    · rcases Nat.lt_or_ge (i + 1) l.length with h3 | h3
      · exact h3
      · exfalso
        rw [List.drop_eq_nil_of_le h3] at h2
        have hne : ∀ t : Bs, foldL m bl t ≠ [] := fun t e => by
          by_cases ht : m < t.length
          · rw [foldL_step m bl t hm ht] at e; cases e
          · rw [foldL_end m bl t (by omega)] at e; cases e
        exact hne _ h2
    · intro hb; simp [psize, hb]
    · intro hb
      subst hb
      rcases cutAt_spec (s.drop a) m with ⟨e, hn⟩ | ⟨j, hj, e, hb, hn⟩
      · have hk : psize m true (s.drop a) = m := by simp [psize, e]
        rw [hk]
        exact ⟨.inl rfl, fun j h1 h2 => by omega⟩
      · have hk : psize m true (s.drop a) = j + 1 := by simp [psize, e]
        rw [hk]
        refine ⟨.inr ?_, fun j' h1 h2 => ?_⟩
        · rw [← getD_drop]; exact hb
        · rw [← getD_drop]; exact hn j' (by omega) h2
  · rw [foldL_end m bl _ (by omega)] at h
    obtain ⟨h1, h2⟩ := List.cons.inj h
    rw [List.length_drop] at hl
    refine ⟨(s.drop a).length, by rw [← h1, List.take_of_length_le (Nat.le_refl _)], by rw [← h1], by rw [List.length_drop]; omega, by rw [List.length_drop]; omega, .inl ⟨?_, by rw [List.length_drop]; omega⟩⟩
    have h3 := congrArg List.length h2
    rw [List.length_drop] at h3
    simp at h3
    omega

set_option maxHeartbeats 2000000 in
set_option maxRecDepth 100000 in
theorem parts_pos (s : ByteArray) (x : Nat) (bl : Bool) (w : World) (hx : x ≤ 65535) (hs : s.size ≤ 4611686018427387904) (hs0 : 0 < s.size) (ht : Tab w) :
    Calls Tryd.prog 5 #[.string s, .int .u16 x, .bool bl] w fun e w' => e = .returned (.bool true) ∧ Below w.heap.size w w' := by
  have HT := hide ht
  have A1 := hide (alive_any w ht)
  clear ht
  go_enter Tryd.func5, Tryd.ntmps5
  go_wp2_with fail
  refine (unhide A1).mono ?_
  rintro e w1 ⟨rfl, hB1⟩
  clear A1
  have hT1 := hide ((unhide HT).below hB1)
  by_cases hbig : (50000 : Int) < (s.size : Int)
  · have A2 := hide (alive_any w1 (unhide hT1))
    go_wp2_with fail
    refine (unhide A2).mono ?_
    rintro e w2 ⟨rfl, hB2⟩
    have hB2' : Below w.heap.size w w2 := hB1.trans (hB2.mono hB1.size)
    go_wp2_with fail
    go_ret
    exact ⟨rfl, hB2'⟩
  · obtain ⟨m, hm⟩ : ∃ m : Nat, m = x % 500 + 1 := ⟨_, rfl⟩
    have hm1 : 1 ≤ m := by omega
    have hm2 : m ≤ 500 := by omega
    have hme : (x : Int) % 500 + 1 = (m : Int) := by omega
    have F := hide (fold_any s m bl w1 hm1 (by omega) (by omega))
    clear hm
    go_wp2_with fail
    refine (unhide F).mono ?_
    rintro e w2 ⟨v, rfl, hO, hB2⟩
    clear F
    have hB2' : Below w.heap.size w w2 := hB1.trans (hB2.mono hB1.size)
    obtain ⟨l, hl⟩ : ∃ l, l = foldL m bl (bs s) := ⟨_, rfl⟩
    rw [← hl] at hO
    have hlne : 1 ≤ l.length := by
      rw [hl]
      by_cases h : m < (bs s).length
      · rw [foldL_step m bl _ hm1 h]; simp
      · rw [foldL_end m bl _ (by omega)]; simp
    obtain ⟨a, c, hv, hTx⟩ := tx_of_rowS hO
    subst hv
    have HTx := hide hTx
    have HL := hide hl
    have hlen0 : ((l.length : Int) == 0) = false := beq_eq_false_iff_ne.2 (by omega)
    have hll : l.length ≤ 50001 := by have := foldL_len m bl hm1 (bs s).length (bs s) (Nat.le_refl _); rw [← hl, bs_len] at this; omega
    clear hO hTx hl
    go_wp2_with fail
    rcases (unhide HTx).cells with h0 | ⟨b, off, rfl, hb, hc⟩
    · omega
    have HC : Hid (∀ i, i < l.length → w2.cell? ⟨b, off + i, none⟩ = some (.string (bt (l.getD i [])))) := fun i hi => by
      rw [hc i hi]; simp [List.getD, List.getElem?_eq_getElem hi]
    clear hc HTx
    go_loopw [10, 11] (fun at_ i wr => ∃ (p k q : Nat), k ≤ l.length ∧ i = .int .i64 k ∧ at_ = .int .i64 p ∧ p ≤ s.size ∧ wr = w2.drewN q ∧ ((k = l.length ∧ p = s.size) ∨ (k < l.length ∧ p < s.size ∧ Hid (foldL m bl ((bs s).drop p) = l.drop k)))) (fun _ i _ => l.length - (intOf i).toNat)
    case atStart => exact ⟨0, 0, 0, by omega, rfl, rfl, by omega, rfl, .inr ⟨by omega, by omega, by rw [List.drop_zero, List.drop_zero]; exact (unhide HL).symm⟩⟩
    case round =>
      obtain ⟨p, k, q, hk, rfl, rfl, hp, rfl, (⟨rfl, rfl⟩ | ⟨hlt, hpos, hfold⟩)⟩ := hrel
      · go_wp2_with fail
        go_ret
        exact ⟨rfl, below_drewN hB2' _⟩
      · have hlt' : (k : Int) < (l.length : Int) := by omega
        obtain ⟨z, h1, h2, h3, h4, h5⟩ := fold_at m bl (bs s) hm1 l p k (unhide hfold) hlt (by rw [bs_len]; exact hp)
        rw [bs_len] at h4 h5
        have hcx := unhide HC k hlt
        obtain ⟨y, hy⟩ : ∃ y, y = bt (l.getD k []) := ⟨_, rfl⟩
        have hys : y.size = z := by rw [hy]; show (l.getD k []).toArray.size = z; rw [List.size_toArray]; exact h2
        have hye : Hid (s.extract p (p + z) = y) := by
          rw [hy, h1, bt_extract, Nat.add_sub_cancel_left]; exact rfl
        rw [← hy] at hcx
        clear hy h1 h2 hfold
        obtain ⟨E, hE⟩ : ∃ E, E = p + z := ⟨_, rfl⟩
        have hye' := unhide hye
        rw [← hE] at hye'
        have hzm : ¬ (m : Int) < (z : Int) := by omega
        have hpz : ¬ (s.size : Int) < (p : Int) + (z : Int) := by omega
        rcases h5 with ⟨e1, e2⟩ | ⟨e1, e2, e3, e4, e5, e6⟩
        · have hn1 : ¬ (k : Int) + 1 < (l.length : Int) := by omega
          have hz0' : ((z : Int) == 0) = false := beq_eq_false_iff_ne.2 (by omega)
          clear hpos
          go_wp2_with fail
          have g1 : ¬ m < z := by omega
          have g3 : IntKind.i64.wrap ((p : Int) + (z : Int)) = (E : Int) := by rw [IntWalk.i64_in _ (by omega)]; omega
          have g2 : ¬ s.size < E := by omega
          have g4 : ¬ E < p := by omega
          have HE := hide hE
          have HE12 := hide (And.intro e1 e2)
          clear e1 e2 hzm hpz hE
          go_quiet (fail)
          go_wp2_with fail
          refine wp_loop_rounds 1 ?_
          rw [rounds_succ]
          go_wp2_with fail
          obtain ⟨e1, e2⟩ := unhide HE12
          have hE := unhide HE
          go_roundw
          case rel => exact ⟨E, k + 1, q + nq, by omega, by go_num, rfl, by omega, rfl, .inl ⟨e1, by omega⟩⟩
          case measure => simp [intOf]; omega
        · have hn1 : (k : Int) + 1 < (l.length : Int) := by omega
          have hz0' : ((z : Int) == 0) = false := beq_eq_false_iff_ne.2 (by omega)
          have HE45 := hide e4
          have HE6 := hide e6
          clear hpos e4 e6
          cases bl
          · obtain rfl : z = m := e5 rfl
            clear e5
            go_wp2_with fail
            have g1 : ¬ z < z := by omega
            have g3 : IntKind.i64.wrap ((p : Int) + (z : Int)) = (E : Int) := by rw [IntWalk.i64_in _ (by omega)]; omega
            have g2 : ¬ s.size < E := by omega
            have g4 : ¬ E < p := by omega
            have HE := hide hE
            have HE12 := hide (And.intro e1 (And.intro e2 e3))
            clear e1 e2 e3 hzm hpz hE
            go_quiet (fail)
            go_wp2_with fail
            refine wp_loop_rounds 1 ?_
            rw [rounds_succ]
            go_wp2_with fail
            obtain ⟨e1, e2, e3⟩ := unhide HE12
            have hE := unhide HE
            go_roundw
            case rel => exact ⟨E, k + 1, q + nq, by omega, by go_num, rfl, by omega, rfl, .inr ⟨e1, by omega, by rw [hE]; exact HE45⟩⟩
            case measure => simp [intOf]; omega
          · clear e5
            by_cases hzm2 : z = m
            · subst hzm2
              go_wp2_with fail
              have g1 : ¬ z < z := by omega
              have g3 : IntKind.i64.wrap ((p : Int) + (z : Int)) = (E : Int) := by rw [IntWalk.i64_in _ (by omega)]; omega
              have g2 : ¬ s.size < E := by omega
              have g4 : ¬ E < p := by omega
              have HE := hide hE
              have HE12 := hide (And.intro e1 (And.intro e2 e3))
              clear e1 e2 e3 hzm hpz hE
              go_quiet (fail)
              go_wp2_with fail
              refine wp_loop_rounds 1 ?_
              rw [rounds_succ]
              go_wp2_with fail
              obtain ⟨e1, e2, e3⟩ := unhide HE12
              have hE := unhide HE
              go_roundw
              case rel => exact ⟨E, k + 1, q + nq, by omega, by go_num, rfl, by omega, rfl, .inr ⟨e1, by omega, by rw [hE]; exact HE45⟩⟩
              case measure => simp [intOf]; omega
            · have hzlt : z < m := by omega
              obtain ⟨h6a, h6b⟩ := unhide HE6 rfl
              have h6c : blk ((bs s).getD (p + (z - 1)) 0) = true := h6a.resolve_left hzm2
              have hidx : Hid (∃ v : Int, (v = 32 ∨ v = 9) ∧ ∀ W, (Instr.index 9 (.string y) (.int .i64 ((z : Int) - 1))).run Tryd.prog W = .ok (.int .u8 v) W) := by
                obtain ⟨z', rfl⟩ : ∃ z', z = z' + 1 := ⟨z - 1, by omega⟩
                have hyz : z' < y.size := by omega
                have hyv : y[z'] = (bs s).getD (p + z') 0 := by
                  have hb1 : bs y = ((bs s).drop p).take (z' + 1) := by rw [← unhide hye, bs_ext, Nat.add_sub_cancel_left]
                  have hb2 : y[z'] = (bs y)[z']'(by rw [bs_len]; exact hyz) := rfl
                  rw [hb2]
                  simp only [hb1]
                  rw [List.getElem_take, List.getElem_drop]
                  simp [List.getD, List.getElem?_eq_getElem (show p + z' < (bs s).length by rw [bs_len]; omega)]
                rw [show z' + 1 - 1 = z' by omega, ← hyv] at h6c
                refine ⟨(y[z'].toNat : Int), ?_, fun W => ?_⟩
                · simp [blk] at h6c
                  rcases h6c with e | e <;> rw [e]
                  · exact .inl rfl
                  · exact .inr rfl
                · rw [show ((z' + 1 : Nat) : Int) - 1 = (z' : Int) by omega]
                  simp [Instr.index, run_underlying Tryd.underlying9, asIntOf, go_sem, hyz]
              have H6 := hide h6b
              clear hzm2 HE6 h6a h6b h6c
              go_wp2_with fail
              have g1 : ¬ m < z := by omega
              have g3 : IntKind.i64.wrap ((p : Int) + (z : Int)) = (E : Int) := by rw [IntWalk.i64_in _ (by omega)]; omega
              have g2 : ¬ s.size < E := by omega
              have g4 : ¬ E < p := by omega
              have HE := hide hE
              have HE12 := hide (And.intro e1 (And.intro e2 e3))
              clear e1 e3 hzm hpz hE
              go_quiet (fail)
              obtain ⟨v, hv, hix⟩ := unhide hidx
              rcases hv with rfl | rfl
              · go_wp2_with fail
                have HB : Hid (∀ j, (h : j < s.size) → p + z ≤ j → j < p + m → ¬ (s[j].toNat : Int) = 32 ∧ ¬ (s[j].toNat : Int) = 9) := fun j h h1 h2 => by
                  have h3 := unhide H6 (j - p) (by omega) (by omega)
                  rw [show p + (j - p) = j by omega] at h3
                  have h4 : (bs s).getD j 0 = s[j] := by simp [List.getD, List.getElem?_eq_getElem (show j < (bs s).length by rw [bs_len]; exact h)]; rfl
                  rw [h4] at h3
                  simp [blk] at h3
                  exact ⟨fun e => h3.1 (u8_eq e), fun e => h3.2 (u8_eq e)⟩
                clear hidx hix
                go_loopw [13] (fun j wr => ∃ jj q2 : Nat, j = .int .i64 jj ∧ p + z ≤ jj ∧ jj ≤ p + m ∧ wr = w2.drewN q2) (fun j _ => p + m - (intOf j).toNat)
                case atStart => exact ⟨E, q + nq, rfl, by have := unhide HE; omega, by have := unhide HE; omega, rfl⟩
                case round =>
                  obtain ⟨jj, q2, rfl, hj1, hj2, rfl⟩ := hrel
                  by_cases hjl : jj < p + m
                  · have hjs : jj < s.size := by have := (unhide HE12).2.2; omega
                    obtain ⟨hb1, hb2⟩ := unhide HB jj hjs hj1 hjl
                    have hjl' : (jj : Int) < (p : Int) + (m : Int) := by omega
                    have hb3 : ((s[jj].toNat : Int) == 32) = false := beq_eq_false_iff_ne.2 hb1
                    have hb4 : ((s[jj].toNat : Int) == 9) = false := beq_eq_false_iff_ne.2 hb2
                    clear hb1 hb2
                    go_wp2_with fail
                    go_roundw
                    case rel => exact ⟨jj + 1, q2, by go_num, by omega, by omega, rfl⟩
                    case measure => simp [intOf]; omega
                  · have hjl' : ¬ (jj : Int) < (p : Int) + (m : Int) := by omega
                    go_wp2_with fail
                    obtain ⟨e1, e2', e3⟩ := unhide HE12
                    have hE := unhide HE
                    go_roundw
                    case rel => exact ⟨E, k + 1, q2, by omega, by go_num, by go_num, by omega, rfl, .inr ⟨e1, by omega, by rw [hE]; exact HE45⟩⟩
                    case measure => simp [intOf]; omega
              · go_wp2_with fail
                have HB : Hid (∀ j, (h : j < s.size) → p + z ≤ j → j < p + m → ¬ (s[j].toNat : Int) = 32 ∧ ¬ (s[j].toNat : Int) = 9) := fun j h h1 h2 => by
                  have h3 := unhide H6 (j - p) (by omega) (by omega)
                  rw [show p + (j - p) = j by omega] at h3
                  have h4 : (bs s).getD j 0 = s[j] := by simp [List.getD, List.getElem?_eq_getElem (show j < (bs s).length by rw [bs_len]; exact h)]; rfl
                  rw [h4] at h3
                  simp [blk] at h3
                  exact ⟨fun e => h3.1 (u8_eq e), fun e => h3.2 (u8_eq e)⟩
                clear hidx hix
                go_loopw [13] (fun j wr => ∃ jj q2 : Nat, j = .int .i64 jj ∧ p + z ≤ jj ∧ jj ≤ p + m ∧ wr = w2.drewN q2) (fun j _ => p + m - (intOf j).toNat)
                case atStart => exact ⟨E, q + nq, rfl, by have := unhide HE; omega, by have := unhide HE; omega, rfl⟩
                case round =>
                  obtain ⟨jj, q2, rfl, hj1, hj2, rfl⟩ := hrel
                  by_cases hjl : jj < p + m
                  · have hjs : jj < s.size := by have := (unhide HE12).2.2; omega
                    obtain ⟨hb1, hb2⟩ := unhide HB jj hjs hj1 hjl
                    have hjl' : (jj : Int) < (p : Int) + (m : Int) := by omega
                    have hb3 : ((s[jj].toNat : Int) == 32) = false := beq_eq_false_iff_ne.2 hb1
                    have hb4 : ((s[jj].toNat : Int) == 9) = false := beq_eq_false_iff_ne.2 hb2
                    clear hb1 hb2
                    go_wp2_with fail
                    go_roundw
                    case rel => exact ⟨jj + 1, q2, by go_num, by omega, by omega, rfl⟩
                    case measure => simp [intOf]; omega
                  · have hjl' : ¬ (jj : Int) < (p : Int) + (m : Int) := by omega
                    go_wp2_with fail
                    obtain ⟨e1, e2', e3⟩ := unhide HE12
                    have hE := unhide HE
                    go_roundw
                    case rel => exact ⟨E, k + 1, q2, by omega, by go_num, by go_num, by omega, rfl, .inr ⟨e1, by omega, by rw [hE]; exact HE45⟩⟩
                    case measure => simp [intOf]; omega

set_option maxHeartbeats 2000000 in
set_option maxRecDepth 100000 in
theorem parts_none (x : Nat) (bl : Bool) (w : World) (hx : x ≤ 65535) (ht : Tab w) :
    Calls Tryd.prog 5 #[.string ByteArray.empty, .int .u16 x, .bool bl] w fun e w' => e = .returned (.bool true) ∧ Below w.heap.size w w' := by
  have A1 := hide (alive_any w ht)
  clear ht
  go_enter Tryd.func5, Tryd.ntmps5
  go_wp2_with fail
  refine (unhide A1).mono ?_
  rintro e w1 ⟨rfl, hB1⟩
  clear A1
  obtain ⟨m, hm⟩ : ∃ m : Nat, m = x % 500 + 1 := ⟨_, rfl⟩
  have hm1 : 1 ≤ m := by omega
  have hm2 : m ≤ 500 := by omega
  have hme : (x : Int) % 500 + 1 = (m : Int) := by omega
  have F := hide (fold_any ByteArray.empty m bl w1 hm1 (by omega) (by decide))
  rw [show bs ByteArray.empty = [] from rfl, foldL_end m bl [] (by simp)] at F
  clear hm
  go_wp2_with fail
  refine (unhide F).mono ?_
  rintro e w2 ⟨v, rfl, hO, hB2⟩
  clear F
  have hB2' : Below w.heap.size w w2 := hB1.trans (hB2.mono hB1.size)
  obtain ⟨a, c, hv, hTx⟩ := tx_of_rowS hO
  subst hv
  rcases hTx.cells with h0 | ⟨b, off, rfl, hb, hc⟩
  · simp at h0
  have hcx := hc 0 (by simp)
  simp at hcx
  have hcx2 : w2.cell? ⟨b, off, none⟩ = some (.string ByteArray.empty) := hcx
  have g1 : ¬ (m : Int) < 0 := by omega
  clear hO hTx hc hcx hB2 hB1
  go_wp2_with fail
  refine wp_loop_rounds 2 ?_
  rw [rounds_succ]
  go_wp2_with fail
  have g6 : IntKind.i64.wrap 0 = 0 := IntWalk.i64_in _ (by omega)
  go_quiet (fail)
  go_wp2_with fail
  refine wp_loop_rounds 1 ?_
  rw [rounds_succ]
  go_wp2_with fail
  rw [rounds_succ]
  go_wp2_with fail
  go_ret
  exact ⟨rfl, below_drewN hB2' _⟩

theorem parts_walk (s : ByteArray) (x : Nat) (bl : Bool) (w : World) (hx : x ≤ 65535) (hs : s.size ≤ 4611686018427387904) (ht : Tab w) :
    Calls Tryd.prog 5 #[.string s, .int .u16 x, .bool bl] w fun e w' => e = .returned (.bool true) ∧ Below w.heap.size w w' := by
  by_cases h0 : s.size = 0
  · obtain rfl : s = ByteArray.empty := ba_ext (List.eq_nil_of_length_eq_zero h0)
    exact parts_none x bl w hx ht
  · exact parts_pos s x bl w hx hs (by omega) ht
end Go.Proofs.YtpfdjnnnemkoiabDoor.Cu
