/- What growByte leaves: every list of bytes has grown by forty marks. -/
import Derived.Test.YtbofidpoajdcmaaGreatDoorBookGrow
import Derived.Test.YtbofidpoajdcmaaGreatDoorBookFillB
namespace Go.Proofs.YtbofidpoajdcmaaGreatDoor.Bk
open Go.RowKit

theorem Tryz.infoByteE : (Tryz.prog.info? 5).map (fun i => (i.zero, i.size, i.bytes)) = some (some (.int .u8 0), 1, 1) := by kernel_rfl
theorem one_byte (c : Int) : ∀ u ∈ [Value.int .u8 c], u.oneCell' = true := by
  intro u hu; simp at hu; subst hu; rfl

set_option maxHeartbeats 1000000 in
set_option maxRecDepth 100000 in
theorem growByte_any (P k : Nat) (u : Value) (cur : List Value) (V : Nat → Value) (M N : Nat → Nat) (w : World) (hB : Own w P cur) (h3 : cur[1]? = some u) (hu : w.ownsRow 0 114 3 u k (held V (fun _ => .slice none 0 0) M k))
    (hR : Rows1 w 5 1 k V N (fun i => marks [.int .u8 (bm (M i))] (N i))) (hM : ∀ i, i < k → M i < 100) (hN : ∀ i, i < k → N i ≤ 140737488351232) (hk : k ≤ 1000000) :
    Calls Tryz.prog 53 #[.pointer (some ⟨P, 0, none⟩)] w fun e w' => e = .returned (.tuple #[]) ∧ (∃ G : Nat → Value, w'.ownsRow 0 114 3 u k (held V G M k) ∧ (∀ j, j < k → w'.ownsRow 0 5 1 (G j) (N j + 40) (marks [.int .u8 (bm (M j))] (N j + 40)))) ∧
      (∀ j, j < k → w'.ownsRow 0 5 1 (V j) (N j) (marks [.int .u8 (bm (M j))] (N j))) ∧ Touch (fun b => (∃ i, i < k ∧ (V i).ownBlock = some b) ∨ u.ownBlock = some b) w w' := by
  obtain ⟨i1, hi1, hy0, hy1, hy2⟩ := info_parts Tryz.infoByteE
  have c3 : w.cell? ⟨P, 1, none⟩ = some u := (hB.cellAt 1 (by omega)).trans h3
  have hPlt : P < w.heap.size := (own_block hB P rfl).1
  have HB := hide hB
  have HU := hide hu
  have HR := hide hR
  have HM := hide hM
  have HN := hide hN
  have HVb : Hid (∀ j, j < k → ∀ b, (V j).ownBlock = some b → b < w.heap.size) := fun j hj b hb => (own_block (hR.own j hj) b hb).1
  obtain ⟨ua, uc, rfl⟩ := own_shape hu
  clear hB hu hR hM hN h3
  go_enter Tryz.func53, Tryz.ntmps53
  go_wp2
  go_loopw [2] (fun s2 wr => ∃ (i : Nat) (G : Nat → Value), i ≤ k ∧ s2 = .int .i64 i ∧ Hid (∀ j, i ≤ j → G j = .slice none 0 0) ∧ Hid (wr.ownsRow 0 114 3 (.slice ua k uc) k (held V G M k)) ∧
      Hid (∀ j, j < i → wr.ownsRow 0 5 1 (G j) (N j + 40) (marks [.int .u8 (bm (M j))] (N j + 40)) ∧ ∀ b, (G j).ownBlock = some b → (V j).ownBlock = some b ∨ w.heap.size ≤ b) ∧
      Hid (∀ j, j < k → wr.ownsRow 0 5 1 (V j) (N j) (marks [.int .u8 (bm (M j))] (N j))) ∧
      Hid (Touch (fun b => (∃ i, i < k ∧ (V i).ownBlock = some b) ∨ (Value.slice ua k uc).ownBlock = some b) w wr)) (fun s2 _ => k - (intOf s2).toNat)
  case atStart => exact ⟨0, fun _ => .slice none 0 0, Nat.zero_le _, rfl, fun _ _ => rfl, HU, fun j hj => absurd hj (Nat.not_lt_zero _), (unhide HR).own, Touch.refl _ _⟩
  case round =>
    obtain ⟨i, G, hik, rfl, hGn, hUr, hG, hV, hTo⟩ := hrel
    obtain ⟨wo, hwo⟩ : ∃ wo : World, wo = wr := ⟨_, rfl⟩
    subst hwo
    have c3r : wo.cell? ⟨P, 1, none⟩ = some (.slice ua k uc) := (unhide hTo).cell c3 (fun h => by
      rcases h with ⟨j, hj, e⟩ | e
      · exact own_ne ((unhide HR).own j hj) (unhide HB) (by decide) P e rfl
      · exact own_ne (unhide HU) (unhide HB) (by decide) P e rfl)
    by_cases hlt : i < k
    · obtain ⟨gu, rfl, _⟩ := row_at (unhide HU) (by omega)
      obtain ⟨e1, e2, e3⟩ := held_get V G M k i hlt
      rw [unhide hGn i (Nat.le_refl _)] at e2
      obtain ⟨va, vc, hv⟩ := own_shape ((unhide HR).own i hlt)
      have d1 : wo.cell? ⟨gu, i * 3, none⟩ = some (.slice va (N i) vc) := ((unhide hUr).cellAt (i * 3) (by omega)).trans (hv ▸ e1)
      have d2 : wo.cell? ⟨gu, i * 3 + 1, none⟩ = some (.slice none 0 0) := ((unhide hUr).cellAt (i * 3 + 1) (by omega)).trans e2
      have d3 : wo.cell? ⟨gu, i * 3 + 2, none⟩ = some (.int .i64 (M i)) := ((unhide hUr).cellAt (i * 3 + 2) (by omega)).trans e3
      have hn := unhide HN i hlt
      have HV := hide hv
      clear e1 e2 e3 hv
      go_wp2
      obtain ⟨wH, hwH⟩ : ∃ wH, wH = wo.alloc (.cells #[.slice va (N i) vc, .slice none 0 0, .int .i64 (M i)] 114) := ⟨_, rfl⟩
      have q2 : wH.cell? ⟨wo.heap.size, 2, none⟩ = some (.int .i64 (M i)) := by rw [hwH]; simp
      have TH : Hid (Touch (fun b => (∃ i, i < k ∧ (V i).ownBlock = some b) ∨ (Value.slice (some ⟨gu, 0, none⟩) k uc).ownBlock = some b) w wH) := by rw [hwH]; exact (unhide hTo).alloc _
      have oH : Hid (∀ j e s v n xs, wo.ownsRow j e s v n xs → wH.ownsRow j e s v n xs) := by rw [hwH]; exact fun j e s v n xs h => h.alloc _
      have hbi : Hid (∀ b, (Value.slice va (N i) vc).ownBlock = some b → b < w.heap.size) := fun b hb => unhide HVb i hlt b (unhide HV ▸ hb)
      have hsw : Hid (w.heap.size ≤ wo.heap.size) := (unhide hTo).size
      have HSH : Hid (wH.heap.size = wo.heap.size + 1) := by rw [hwH]; simp [Hid]
      rw [← hwH]
      clear hwH d1 d2 d3
      go_loopw [4, 5] (fun s4 s5 wy => ∃ q : Nat, q ≤ 40 ∧ s5 = .int .i64 q ∧ Hid (wy.ownsRow 0 5 1 s4 (N i + q) (marks [.int .u8 (bm (M i))] (N i + q))) ∧ Hid (wy.ownsRow 0 5 1 (.slice va (N i) vc) (N i) (marks [.int .u8 (bm (M i))] (N i))) ∧
          Hid (∀ b, s4.ownBlock = some b → (Value.slice va (N i) vc).ownBlock = some b ∨ wH.heap.size ≤ b) ∧ Hid (Touch (fun b => (Value.slice va (N i) vc).ownBlock = some b) wH wy)) (fun _ s5 _ => 40 - (intOf s5).toNat)
      case atStart =>
        have := unhide oH _ _ _ _ _ _ (unhide hV i hlt)
        rw [unhide HV] at this
        exact ⟨0, by omega, rfl, this, this, fun b hb => .inl hb, Touch.refl _ _⟩
      case round =>
        obtain ⟨q, hq, rfl, hO, hOv, hLoc, hTy⟩ := hrel
        have q2' : wr.cell? ⟨wo.heap.size, 2, none⟩ = some (.int .i64 (M i)) := (unhide hTy).cell q2 (fun e => by have := unhide hbi _ e; have := unhide hsw; simp at *; omega)
        by_cases hq40 : q < 40
        · obtain ⟨la, lc, rfl⟩ := own_shape (unhide hO)
          obtain ⟨x, hx⟩ : ∃ x, bm (M i) = x := ⟨_, rfl⟩
          have HC : Hid (∀ w, Calls Tryz.prog 98 #[.int .i64 (M i)] w fun e w' => e = .returned (.int .u8 x) ∧ w' = w) := fun w => hx ▸ markByte_any (M i) w (unhide HM i hlt)
          have hgs : Hid (∀ o v' w', w'.ownsRow 0 5 1 v' (N i + q + 1) (marks [.int .u8 x] (N i + q) ++ [.int .u8 x]) → ((∃ g cap, Value.slice la (N i + q) lc = .slice (some ⟨g, 0, none⟩) (N i + q) cap ∧ v' = .slice (some ⟨g, 0, none⟩) (N i + q + 1) cap ∧ (wr.alloc o).grownBy w' (some g)) ∨ ((∀ b, v'.ownBlock = some b → (wr.alloc o).heap.size ≤ b) ∧ (wr.alloc o).grownBy w' none)) →
              w'.ownsRow 0 5 1 v' (N i + (q + 1)) (marks [.int .u8 x] (N i + (q + 1))) ∧ w'.ownsRow 0 5 1 (.slice va (N i) vc) (N i) (marks [.int .u8 x] (N i)) ∧ (∀ b, v'.ownBlock = some b → (Value.slice va (N i) vc).ownBlock = some b ∨ wH.heap.size ≤ b) ∧ Touch (fun b => (Value.slice va (N i) vc).ownBlock = some b) wH w') := by
            intro o v' w' h1 h2
            have hO' := unhide hO
            have hOv' := unhide hOv
            rw [hx] at hO' hOv'
            exact grow_step o rfl (by decide) hO' hOv' (unhide hLoc) (unhide hTy) (fun b hb => by have := unhide hbi b hb; have := unhide hsw; have := unhide HSH; omega) h1 h2
          have hOx : Hid (wr.ownsRow 0 5 1 (.slice la (N i + q) lc) (N i + q) (marks [.int .u8 x] (N i + q))) := hx ▸ unhide hO
          have HX := hide hx
          clear hx hO hOv hLoc hTy
          go_wp2_with fail
          refine (unhide HC _).mono ?_
          rintro e w' ⟨rfl, hw'⟩
          rw [hw']
          clear hw'
          go_wp2_with (at_builtin; refine wpList_append_two _ rfl _ _ 23 rfl 5 i1 _ 1 1 Tryz.underlying23 hi1 hy0 hy1 hy2 rfl (by decide) _ _ _ rfl ((unhide hOx).alloc _) ⟨wr.heap.size, 0, none⟩ 1 1 [.int .u8 x] rfl rfl (cell_one_new _ _ _) (by intro u hu; simp at hu; subst hu; rfl) (by unfold maxLen; omega) (by omega) ?_; intro v' w2 hr2 hc2; have HS2 := hide (unhide hgs _ v' w2 hr2 hc2); clear hr2 hc2)
          go_roundw
          case rel => exact ⟨q + 1, by omega, by go_num, by rw [unhide HX]; exact (unhide HS2).1, by rw [unhide HX]; exact (unhide HS2).2.1, (unhide HS2).2.2.1, (unhide HS2).2.2.2⟩
          case measure => simp [intOf]; omega
        · obtain rfl : q = 40 := by omega
          obtain ⟨la, lc, rfl⟩ := own_shape (unhide hO)
          have hneT : ∀ b, (Value.slice (some ⟨gu, 0, none⟩) k uc).ownBlock = some b → ¬ (Value.slice va (N i) vc).ownBlock = some b := fun b h1 h2 => own_ne ((unhide HR).own i hlt) (unhide HU) (by decide) b (by rw [unhide HV]; exact h2) h1
          have hUy := (unhide hTy).own (unhide oH _ _ _ _ _ _ (unhide hUr)) hneT
          have c3y : wr.cell? ⟨P, 1, none⟩ = some (.slice (some ⟨gu, 0, none⟩) k uc) := by
            have hP : ¬ (Value.slice va (N i) vc).ownBlock = some P := fun e => own_ne ((unhide HR).own i hlt) (unhide HB) (by decide) P (by rw [unhide HV]; exact e) rfl
            have hPo : wH.cell? ⟨P, 1, none⟩ = some (.slice (some ⟨gu, 0, none⟩) k uc) := (unhide TH).cell c3 (fun h => by
              rcases h with ⟨j, hj, e⟩ | e
              · exact own_ne ((unhide HR).own j hj) (unhide HB) (by decide) P e rfl
              · exact own_ne (unhide HU) (unhide HB) (by decide) P e rfl)
            exact (unhide hTy).cell hPo hP
          have f1 := hUy.frozenAt (i * 3 + 1)
          have d2 : wr.cell? ⟨gu, i * 3 + 1, none⟩ = some (.slice none 0 0) := by
            rw [hUy.cellAt (i * 3 + 1) (by omega), (held_get V G M k i hlt).2.1, unhide hGn i (Nat.le_refl _)]
          obtain ⟨hU2, hg2⟩ := hUy.stored (i * 3 + 1) (.slice la (N i + 40) lc)
          rw [held_set V G M k i _ hlt] at hU2
          have hkeep : ∀ {v : Value} {n : Nat} {xs : List Value}, wr.ownsRow 0 5 1 v n xs → (wr.setCell ⟨gu, i * 3 + 1, none⟩ (.slice la (N i + 40) lc)).ownsRow 0 5 1 v n xs := by
            intro v n xs h
            refine h.kept hg2 ?_
            cases hv : v.ownBlock with
            | none => exact .inl rfl
            | some b => exact .inr (fun e => own_ne h hUy (by decide) b hv (by cases e; rfl))
          have hap : ∀ j, j < k → j ≠ i → ∀ b, (V j).ownBlock = some b → ¬ (Value.slice va (N i) vc).ownBlock = some b := by
            intro j hj hne b hb hb'
            exact (unhide HR).apart j i hj hlt hne b hb (by rw [unhide HV]; exact hb')
          have hV2 : Hid (∀ j, j < k → (wr.setCell ⟨gu, i * 3 + 1, none⟩ (.slice la (N i + 40) lc)).ownsRow 0 5 1 (V j) (N j) (marks [.int .u8 (bm (M j))] (N j))) := by
            intro j hj
            by_cases e : j = i
            · subst e
              have := hkeep (unhide hOv)
              rw [← unhide HV] at this
              exact this
            · exact hkeep ((unhide hTy).own (unhide oH _ _ _ _ _ _ (unhide hV j hj)) (hap j hj e))
          have hG2 : Hid (∀ j, j < i + 1 → (wr.setCell ⟨gu, i * 3 + 1, none⟩ (.slice la (N i + 40) lc)).ownsRow 0 5 1 (if j = i then .slice la (N i + 40) lc else G j) (N j + 40) (marks [.int .u8 (bm (M j))] (N j + 40)) ∧ ∀ b, (if j = i then Value.slice la (N i + 40) lc else G j).ownBlock = some b → (V j).ownBlock = some b ∨ w.heap.size ≤ b) := by
            intro j hj
            by_cases e : j = i
            · subst e
              rw [if_pos rfl]
              refine ⟨hkeep (unhide hO), fun b hb => ?_⟩
              rcases unhide hLoc b hb with h | h
              · exact .inl (by rw [unhide HV]; exact h)
              · exact .inr (by have := unhide hsw; have := unhide HSH; omega)
            · rw [if_neg e]
              obtain ⟨g1, g2⟩ := unhide hG j (by omega)
              refine ⟨hkeep ((unhide hTy).own (unhide oH _ _ _ _ _ _ g1) (fun b hb hb' => ?_)), g2⟩
              rcases g2 b hb with h | h
              · exact hap j (by omega) e b h hb'
              · have := unhide hbi b hb'; omega
          have hTo2 : Hid (Touch (fun b => (∃ i, i < k ∧ (V i).ownBlock = some b) ∨ (Value.slice (some ⟨gu, 0, none⟩) k uc).ownBlock = some b) w (wr.setCell ⟨gu, i * 3 + 1, none⟩ (.slice la (N i + 40) lc))) := by
            show Touch _ _ _
            exact ((unhide TH).trans (unhide hTy) (fun j _ hj => .inl ⟨i, hlt, by rw [unhide HV]; exact hj⟩)).setCell (p := ⟨gu, i * 3 + 1, none⟩) (fun _ => .inr rfl) _
          have hGn2 : Hid (∀ j, i + 1 ≤ j → (if j = i then Value.slice la (N i + 40) lc else G j) = .slice none 0 0) := by
            intro j hj
            rw [if_neg (by omega)]; exact unhide hGn j (by omega)
          have HU2 := hide hU2
          clear hU2 hg2 hkeep hap hUy hneT hO hOv hLoc hTy hV hG hTo TH oH hGn hUr c3r
          go_wp2
          go_roundw
          case rel => exact ⟨i + 1, fun j => if j = i then .slice la (N i + 40) lc else G j, by omega, by go_num, hGn2, HU2, hG2, hV2, hTo2⟩
          case measure => simp [intOf]; omega
    · obtain rfl : i = k := by omega
      go_wp2
      go_end0
      exact ⟨rfl, ⟨G, unhide hUr, fun j hj => (unhide hG j hj).1⟩, unhide hV, unhide hTo⟩
end Go.Proofs.YtbofidpoajdcmaaGreatDoor.Bk
