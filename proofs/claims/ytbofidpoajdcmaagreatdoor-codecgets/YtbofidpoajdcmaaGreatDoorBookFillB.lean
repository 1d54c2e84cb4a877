/- What fillByte leaves: every list of bytes that the Book holds is all marks. -/
import Derived.Test.YtbofidpoajdcmaaGreatDoorBookFill
import Derived.Test.YtbofidpoajdcmaaGreatDoorBookKeepB
namespace Go.Proofs.YtbofidpoajdcmaaGreatDoor.Bk
open Go.RowKit

set_option maxHeartbeats 1000000 in
set_option maxRecDepth 100000 in
theorem fillByte_any (P k : Nat) (u : Value) (cur : List Value) (V : Nat → Value) (M N : Nat → Nat) (X : Nat → List Value) (w : World) (hB : Own w P cur) (h3 : cur[1]? = some u) (hu : w.ownsRow 0 114 3 u k (held V (fun _ => .slice none 0 0) M k))
    (hR : Rows1 w 5 1 k V N X) (hM : ∀ i, i < k → M i < 100) (hN : ∀ i, i < k → N i ≤ 140737488351232) (hk : k ≤ 1000000) :
    Calls Tryz.prog 41 #[.pointer (some ⟨P, 0, none⟩)] w fun e w' => e = .returned (.tuple #[]) ∧ Rows1 w' 5 1 k V N (fun i => marks [.int .u8 (bm (M i))] (N i)) ∧ Touch (fun b => ∃ i, i < k ∧ (V i).ownBlock = some b) w w' := by
  have c3 : w.cell? ⟨P, 1, none⟩ = some u := (hB.cellAt 1 (by omega)).trans h3
  have hPlt : P < w.heap.size := (own_block hB P rfl).1
  have HB := hide hB
  have HU := hide hu
  have HR := hide hR
  have HM := hide hM
  have HN := hide hN
  obtain ⟨ua, uc, rfl⟩ := own_shape hu
  clear hB hu hR hM hN h3
  go_enter Tryz.func41, Tryz.ntmps41
  go_wp2
  go_loopw [2] (fun s2 wr => ∃ i : Nat, i ≤ k ∧ s2 = .int .i64 i ∧ Hid (∀ j, j < i → wr.ownsRow 0 5 1 (V j) (N j) (marks [.int .u8 (bm (M j))] (N j))) ∧ Hid (∀ j, i ≤ j → j < k → wr.ownsRow 0 5 1 (V j) (N j) (X j)) ∧
      Hid (Touch (fun b => ∃ i, i < k ∧ (V i).ownBlock = some b) w wr)) (fun s2 _ => k - (intOf s2).toNat)
  case atStart => exact ⟨0, Nat.zero_le _, rfl, fun j hj => absurd hj (Nat.not_lt_zero _), fun j _ hj => (unhide HR).own j hj, Touch.refl _ _⟩
  case round =>
    obtain ⟨i, hik, rfl, hD, hT, hTo⟩ := hrel
    obtain ⟨wo, hwo⟩ : ∃ wo : World, wo = wr := ⟨_, rfl⟩
    subst hwo
    have c3r : wo.cell? ⟨P, 1, none⟩ = some (.slice ua k uc) := (unhide hTo).cell c3 (fun ⟨j, hj, e⟩ => own_ne ((unhide HR).own j hj) (unhide HB) (by decide) P e rfl)
    by_cases hlt : i < k
    · obtain ⟨gu, rfl, _⟩ := row_at (unhide HU) (by omega)
      have hur := (unhide hTo).own (unhide HU) (fun b hb ⟨j, hj, e⟩ => own_ne ((unhide HR).own j hj) (unhide HU) (by decide) b e hb)
      obtain ⟨e1, e2, e3⟩ := held_get V (fun _ => .slice none 0 0) M k i hlt
      obtain ⟨va, vc, hv⟩ := own_shape ((unhide HR).own i hlt)
      have d1 : wo.cell? ⟨gu, i * 3, none⟩ = some (.slice va (N i) vc) := (hur.cellAt (i * 3) (by omega)).trans (hv ▸ e1)
      have d2 : wo.cell? ⟨gu, i * 3 + 1, none⟩ = some (.slice none 0 0) := (hur.cellAt (i * 3 + 1) (by omega)).trans e2
      have d3 : wo.cell? ⟨gu, i * 3 + 2, none⟩ = some (.int .i64 (M i)) := (hur.cellAt (i * 3 + 2) (by omega)).trans e3
      have hn := unhide HN i hlt
      have HV := hide hv
      clear hur e1 e2 e3 hv
      go_wp2
      obtain ⟨wH, hwH⟩ : ∃ wH, wH = wo.alloc (.cells #[.slice va (N i) vc, .slice none 0 0, .int .i64 (M i)] 114) := ⟨_, rfl⟩
      have q0 : wH.cell? ⟨wo.heap.size, 0, none⟩ = some (.slice va (N i) vc) := by rw [hwH]; simp
      have q2 : wH.cell? ⟨wo.heap.size, 2, none⟩ = some (.int .i64 (M i)) := by rw [hwH]; simp
      have TH : Hid (Touch (fun b => ∃ i, i < k ∧ (V i).ownBlock = some b) w wH) := by rw [hwH]; exact (unhide hTo).alloc _
      have oH : Hid (∀ j e s v n xs, wo.ownsRow j e s v n xs → wH.ownsRow j e s v n xs) := by rw [hwH]; exact fun j e s v n xs h => h.alloc _
      have hbi : Hid (∀ b, (Value.slice va (N i) vc).ownBlock = some b → b < wo.heap.size) := fun b hb => (own_block (unhide hT i (Nat.le_refl _) hlt) b (unhide HV ▸ hb)).1
      have hsH : wH.heap.size = wo.heap.size + 1 := by rw [hwH]; simp
      rw [← hwH]
      clear hwH d1 d2 d3 c3r
      have HSH := hide hsH
      clear hsH
      go_loopw [4] (fun s4 wy => ∃ q : Nat, q ≤ N i ∧ s4 = .int .i64 q ∧ Hid (Touch (fun b => (Value.slice va (N i) vc).ownBlock = some b) wH wy) ∧ Hid (wy.ownsRow 0 5 1 (.slice va (N i) vc) (N i) (marks [.int .u8 (bm (M i))] q ++ (X i).drop q))) (fun s4 _ => N i - (intOf s4).toNat)
      case atStart => exact ⟨0, Nat.zero_le _, rfl, Touch.refl _ _, by have := unhide oH _ _ _ _ _ _ (unhide hT i (Nat.le_refl _) hlt); rw [unhide HV] at this; simpa [marks, Hid] using this⟩
      case round =>
        obtain ⟨q, hq, rfl, hTy, hOy⟩ := hrel
        have q0' : wr.cell? ⟨wo.heap.size, 0, none⟩ = some (.slice va (N i) vc) := (unhide hTy).cell q0 (fun e => by have := unhide hbi _ e; simp at this)
        have q2' : wr.cell? ⟨wo.heap.size, 2, none⟩ = some (.int .i64 (M i)) := (unhide hTy).cell q2 (fun e => by have := unhide hbi _ e; simp at this)
        by_cases hqn : q < N i
        · obtain ⟨g, rfl, _⟩ := row_at (unhide hOy) (by omega)
          have hxl : (X i).length = N i := by have := ((unhide HR).own i hlt).1; omega
          have hml : (marks [.int .u8 (bm (M i))] q).length = q := by rw [marks_length]; simp
          obtain ⟨old, hold⟩ : ∃ old, (marks [.int .u8 (bm (M i))] q ++ (X i).drop q)[q]? = some old := ⟨_, List.getElem?_eq_getElem (by rw [List.length_append, hml, List.length_drop]; omega)⟩
          have cg : wr.cell? ⟨g, q, none⟩ = some old := ((unhide hOy).cellAt q (by omega)).trans hold
          have fg := (unhide hOy).frozenAt q
          have hst := ((unhide hOy).stored q (.int .u8 (bm (M i)))).1
          rw [set_mark _ q (X i) (by omega)] at hst
          have HST := hide hst
          have hqn' : (q : Int) < (N i : Int) := by omega
          have hTs : Hid (Touch (fun b => (Value.slice (some ⟨g, 0, none⟩) (N i) vc).ownBlock = some b) wH (wr.setCell ⟨g, q, none⟩ (.int .u8 (bm (M i))))) := by
            show Touch _ _ _
            exact (unhide hTy).setCell (p := ⟨g, q, none⟩) (fun _ => rfl) _
          obtain ⟨x, hx⟩ : ∃ x, bm (M i) = x := ⟨_, rfl⟩
          have HC : Hid (∀ w, Calls Tryz.prog 98 #[.int .i64 (M i)] w fun e w' => e = .returned (.int .u8 x) ∧ w' = w) := fun w => hx ▸ markByte_any (M i) w (unhide HM i hlt)
          rw [hx] at HST hTs
          have HX := hide hx
          clear hst hold hxl hml hx
          go_wp2
          go_region_with (go_at_call 98; refine (unhide HC _).mono ?_; rintro e w' ⟨rfl, rfl⟩)
          all_goals
            go_wp2
            go_roundw
            case rel => exact ⟨q + 1, by omega, by go_num, by exact (unhide hTs).drew, by rw [unhide HX]; exact unhide HST⟩
            case measure => simp [intOf]; omega
        · obtain rfl : q = N i := by omega
          have hxl : (X i).length = N i := by have := ((unhide HR).own i hlt).1; omega
          have hO2 : Hid (wr.ownsRow 0 5 1 (V i) (N i) (marks [.int .u8 (bm (M i))] (N i))) := by
            have := unhide hOy
            rw [List.drop_eq_nil_of_le (by omega), List.append_nil] at this
            show World.ownsRow _ _ _ _ _ _ _
            rw [unhide HV]; exact this
          have hap : ∀ j, j < k → j ≠ i → ∀ b, (V j).ownBlock = some b → ¬ (Value.slice va (N i) vc).ownBlock = some b := by
            intro j hj hne b hb hb'
            exact (unhide HR).apart j i hj hlt hne b hb (by rw [unhide HV]; exact hb')
          have hD2 : Hid (∀ j, j < i + 1 → wr.ownsRow 0 5 1 (V j) (N j) (marks [.int .u8 (bm (M j))] (N j))) := by
            intro j hj
            by_cases e : j = i
            · subst e; exact unhide hO2
            · exact (unhide hTy).own (unhide oH _ _ _ _ _ _ (unhide hD j (by omega))) (hap j (by omega) e)
          have hT2 : Hid (∀ j, i + 1 ≤ j → j < k → wr.ownsRow 0 5 1 (V j) (N j) (X j)) := by
            intro j h1 h2
            exact (unhide hTy).own (unhide oH _ _ _ _ _ _ (unhide hT j (by omega) h2)) (hap j h2 (by omega))
          have hTo2 : Hid (Touch (fun b => ∃ i, i < k ∧ (V i).ownBlock = some b) w wr) := by
            show Touch _ _ _
            exact (unhide TH).trans (unhide hTy) (fun j _ hj => ⟨i, hlt, by rw [unhide HV]; exact hj⟩)
          clear hap hxl hO2 hOy hTy hD hT hTo TH oH
          go_wp2
          go_roundw
          case rel => exact ⟨i + 1, by omega, by go_num, hD2, hT2, hTo2⟩
          case measure => simp [intOf]; omega
    · obtain rfl : i = k := by omega
      go_wp2
      go_end0
      exact ⟨rfl, ⟨unhide hD, (unhide HR).apart⟩, unhide hTo⟩
end Go.Proofs.YtbofidpoajdcmaaGreatDoor.Bk
