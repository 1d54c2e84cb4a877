/- What fillEntry leaves: every list of names that the Book holds is all marks. -/
import Derived.Test.YtcpellddjlmegaaGreatDoorBookFill
import Derived.Test.YtcpellddjlmegaaGreatDoorBookKeepE
namespace Go.Proofs.YtcpellddjlmegaaGreatDoor.Bk
open Go.RowKit

theorem own_below {w w' : World} {base : Nat} {e : TypeId} {size : Nat} {v : Value} {n : Nat} {xs : List Value} (h : w.ownsRow base e size v n xs) (hb : Below w.heap.size w w') : w'.ownsRow base e size v n xs :=
  h.kept (row := none) ⟨hb.os, hb.tape, hb.output, hb.size, fun k hk _ => hb.block k hk⟩ (by cases v.ownBlock <;> simp)
theorem set_mark2 (x y : Value) (k : Nat) (X : List Value) (hk : k * 2 + 1 < X.length) : ((marks [x, y] k ++ X.drop (k * 2)).set (k * 2) x).set (k * 2 + 1) y = marks [x, y] (k + 1) ++ X.drop ((k + 1) * 2) := by
  have hl : (marks [x, y] k).length = k * 2 := by rw [marks_length]; simp
  have hd : X.drop (k * 2) = X[k * 2] :: X[k * 2 + 1] :: X.drop (k * 2 + 1 + 1) := by
    rw [List.drop_eq_getElem_cons (by omega), List.drop_eq_getElem_cons hk]
  rw [List.set_append_right _ _ (by omega), hl, Nat.sub_self, hd, List.set_cons_zero, List.set_append_right _ _ (by omega), hl]
  rw [show k * 2 + 1 - k * 2 = 0 + 1 from by omega, List.set_cons_succ, List.set_cons_zero]
  rw [show (k + 1) * 2 = k * 2 + 1 + 1 from by omega]
  simp only [marks, List.append_assoc]
  rfl

set_option maxHeartbeats 1000000 in
set_option maxRecDepth 100000 in
theorem fillEntry_any (P k : Nat) (u : Value) (cur : List Value) (V : Nat → Value) (M N : Nat → Nat) (X : Nat → List Value) (w : World) (hB : Own w P cur) (h3 : cur[9]? = some u) (hu : w.ownsRow 0 113 3 u k (held V (fun _ => .slice none 0 0) M k))
    (hR : Rows1 w 72 2 k V N X) (hM : ∀ i, i < k → M i < 100) (hN : ∀ i, i < k → N i ≤ 4194304) (hk : k ≤ 1000000) :
    Calls Tryz.prog 26 #[.pointer (some ⟨P, 0, none⟩)] w fun e w' => e = .returned (.tuple #[]) ∧ Rows1 w' 72 2 k V N (fun i => marks [.string (wd (M i)), .int .i64 0] (N i)) ∧ Touch (fun b => ∃ i, i < k ∧ (V i).ownBlock = some b) w w' := by
  have c3 : w.cell? ⟨P, 9, none⟩ = some u := (hB.cellAt 9 (by omega)).trans h3
  have hPlt : P < w.heap.size := (own_block hB P rfl).1
  have HB := hide hB
  have HU := hide hu
  have HR := hide hR
  have HM := hide hM
  have HN := hide hN
  obtain ⟨ua, uc, rfl⟩ := own_shape hu
  clear hB hu hR hM hN h3
  go_enter Tryz.func26, Tryz.ntmps26
  go_wp2
  go_loopw [2] (fun s2 wr => ∃ i : Nat, i ≤ k ∧ s2 = .int .i64 i ∧ Hid (∀ j, j < i → wr.ownsRow 0 72 2 (V j) (N j) (marks [.string (wd (M j)), .int .i64 0] (N j))) ∧ Hid (∀ j, i ≤ j → j < k → wr.ownsRow 0 72 2 (V j) (N j) (X j)) ∧
      Hid (Touch (fun b => ∃ i, i < k ∧ (V i).ownBlock = some b) w wr)) (fun s2 _ => k - (intOf s2).toNat)
  case atStart => exact ⟨0, Nat.zero_le _, rfl, fun j hj => absurd hj (Nat.not_lt_zero _), fun j _ hj => (unhide HR).own j hj, Touch.refl _ _⟩
  case round =>
    obtain ⟨i, hik, rfl, hD, hT, hTo⟩ := hrel
    obtain ⟨wo, hwo⟩ : ∃ wo : World, wo = wr := ⟨_, rfl⟩
    subst hwo
    have c3r : wo.cell? ⟨P, 9, none⟩ = some (.slice ua k uc) := (unhide hTo).cell c3 (fun ⟨j, hj, e⟩ => own_ne ((unhide HR).own j hj) (unhide HB) (by decide) P e rfl)
    by_cases hlt : i < k
    · obtain ⟨gu, rfl, _⟩ := row_at (unhide HU) (by omega)
      have hur := (unhide hTo).own (unhide HU) (fun b hb ⟨j, hj, e⟩ => own_ne ((unhide HR).own j hj) (unhide HU) (by decide) b e hb)
      obtain ⟨e1, e2, e3⟩ := held_get V (fun _ => .slice none 0 0) M k i hlt
      obtain ⟨va, vc, hv⟩ := own_shape ((unhide HR).own i hlt)
      have d1 : wo.cell? ⟨gu, i * 3, none⟩ = some (.slice va (N i) vc) := (hur.cellAt (i * 3) (by omega)).trans (hv ▸ e1)
      have d2 : wo.cell? ⟨gu, i * 3 + 1, none⟩ = some (.slice none 0 0) := (hur.cellAt (i * 3 + 1) (by omega)).trans e2
      have d3 : wo.cell? ⟨gu, i * 3 + 2, none⟩ = some (.int .i64 (M i)) := (hur.cellAt (i * 3 + 2) (by omega)).trans e3
      have hn := unhide HN i hlt
      have HV := hide hv
      clear hur e1 e2 e3 hv
      go_wp2
      obtain ⟨wH, hwH⟩ : ∃ wH, wH = wo.alloc (.cells #[.slice va (N i) vc, .slice none 0 0, .int .i64 (M i)] 113) := ⟨_, rfl⟩
      have q0 : wH.cell? ⟨wo.heap.size, 0, none⟩ = some (.slice va (N i) vc) := by rw [hwH]; simp
      have q2 : wH.cell? ⟨wo.heap.size, 2, none⟩ = some (.int .i64 (M i)) := by rw [hwH]; simp
      have TH : Hid (Touch (fun b => ∃ i, i < k ∧ (V i).ownBlock = some b) w wH) := by rw [hwH]; exact (unhide hTo).alloc _
      have oH : Hid (∀ j e s v n xs, wo.ownsRow j e s v n xs → wH.ownsRow j e s v n xs) := by rw [hwH]; exact fun j e s v n xs h => h.alloc _
      have hbi : Hid (∀ b, (Value.slice va (N i) vc).ownBlock = some b → b < wo.heap.size) := fun b hb => (own_block (unhide hT i (Nat.le_refl _) hlt) b (unhide HV ▸ hb)).1
      have hsH : wH.heap.size = wo.heap.size + 1 := by rw [hwH]; simp
      rw [← hwH]
      clear hwH d1 d2 d3 c3r
      have HSH := hide hsH
      clear hsH
      go_loopw [4] (fun s4 wy => ∃ q : Nat, q ≤ N i ∧ s4 = .int .i64 q ∧ Hid (Touch (fun b => (Value.slice va (N i) vc).ownBlock = some b) wH wy) ∧ Hid (wy.ownsRow 0 72 2 (.slice va (N i) vc) (N i) (marks [.string (wd (M i)), .int .i64 0] q ++ (X i).drop (q * 2)))) (fun s4 _ => N i - (intOf s4).toNat)
      case atStart => exact ⟨0, Nat.zero_le _, rfl, Touch.refl _ _, by have := unhide oH _ _ _ _ _ _ (unhide hT i (Nat.le_refl _) hlt); rw [unhide HV] at this; simpa [marks, Hid] using this⟩
      case round =>
        obtain ⟨q, hq, rfl, hTy, hOy⟩ := hrel
        have q0' : wr.cell? ⟨wo.heap.size, 0, none⟩ = some (.slice va (N i) vc) := (unhide hTy).cell q0 (fun e => by have := unhide hbi _ e; simp at this)
        have q2' : wr.cell? ⟨wo.heap.size, 2, none⟩ = some (.int .i64 (M i)) := (unhide hTy).cell q2 (fun e => by have := unhide hbi _ e; simp at this)
        by_cases hqn : q < N i
        · obtain ⟨g, rfl, _⟩ := row_at (unhide hOy) (by omega)
          have hxl : (X i).length = N i * 2 := ((unhide HR).own i hlt).1
          have hml : (marks [.string (wd (M i)), .int .i64 0] q).length = q * 2 := by rw [marks_length]; simp
          obtain ⟨o1, ho1⟩ : ∃ old, (marks [.string (wd (M i)), .int .i64 0] q ++ (X i).drop (q * 2))[q * 2]? = some old := ⟨_, List.getElem?_eq_getElem (by rw [List.length_append, hml, List.length_drop]; omega)⟩
          obtain ⟨o2, ho2⟩ : ∃ old, (marks [.string (wd (M i)), .int .i64 0] q ++ (X i).drop (q * 2))[q * 2 + 1]? = some old := ⟨_, List.getElem?_eq_getElem (by rw [List.length_append, hml, List.length_drop]; omega)⟩
          have cg1 : wr.cell? ⟨g, q * 2, none⟩ = some o1 := ((unhide hOy).cellAt (q * 2) (by omega)).trans ho1
          have cg2 : wr.cell? ⟨g, q * 2 + 1, none⟩ = some o2 := ((unhide hOy).cellAt (q * 2 + 1) (by omega)).trans ho2
          have fg1 := (unhide hOy).frozenAt (q * 2)
          have fg2 := (unhide hOy).frozenAt (q * 2 + 1)
          have hgl := (own_block (unhide hOy) g rfl).1
          have hHl : wo.heap.size < wr.heap.size := by have := (unhide hTy).size; rw [unhide HSH] at this; omega
          have hqn' : (q : Int) < (N i : Int) := by omega
          have hfin : Hid (∀ w', Below wr.heap.size wr w' → ((w'.setCell ⟨g, q * 2, none⟩ (.string (wd (M i)))).setCell ⟨g, q * 2 + 1, none⟩ (.int .i64 0)).ownsRow 0 72 2 (.slice (some ⟨g, 0, none⟩) (N i) vc) (N i) (marks [.string (wd (M i)), .int .i64 0] (q + 1) ++ (X i).drop ((q + 1) * 2)) ∧
              Touch (fun b => (Value.slice (some ⟨g, 0, none⟩) (N i) vc).ownBlock = some b) wH ((w'.setCell ⟨g, q * 2, none⟩ (.string (wd (M i)))).setCell ⟨g, q * 2 + 1, none⟩ (.int .i64 0))) := by
            intro w' hb
            refine ⟨?_, (((unhide hTy).below hb).setCell (p := ⟨g, q * 2, none⟩) (fun _ => rfl) _).setCell (p := ⟨g, q * 2 + 1, none⟩) (fun _ => rfl) _⟩
            have h1 := (own_below (unhide hOy) hb).stored (q * 2) (.string (wd (M i)))
            have h2 := (h1.1.stored (q * 2 + 1) (.int .i64 0)).1
            rw [set_mark2 _ _ q (X i) (by omega)] at h2
            exact h2
          obtain ⟨x, hx⟩ : ∃ x, wd (M i) = x := ⟨_, rfl⟩
          have HC : Hid (∀ w, Calls Tryz.prog 73 #[.int .i64 (M i)] w fun e w' => e = .returned (.agg #[.string x, .int .i64 0]) ∧ Below w.heap.size w w') := fun w => hx ▸ markEntry_any (M i) w (unhide HM i hlt)
          rw [hx] at hfin
          have HX := hide hx
          clear ho1 ho2 hxl hml hx
          go_wp2
          go_region_with (go_at_call 73; refine (unhide HC _).mono ?_; rintro e w' ⟨rfl, hb⟩; have hbb : Below wr.heap.size wr w' := ⟨hb.os, hb.tape, hb.output, hb.size, hb.block⟩; have a1 := (hbb.cell (p := ⟨wo.heap.size, 0, none⟩) hHl).trans q0'; have a2 := (hbb.cell (p := ⟨wo.heap.size, 2, none⟩) hHl).trans q2'; have a3 := (hbb.cell (p := ⟨g, q * 2, none⟩) hgl).trans cg1; have a4 := (hbb.cell (p := ⟨g, q * 2 + 1, none⟩) hgl).trans cg2; have a5 := (hbb.frozen (p := ⟨g, q * 2, none⟩) hgl).trans fg1; have a6 := (hbb.frozen (p := ⟨g, q * 2 + 1, none⟩) hgl).trans fg2; have HF := hide (unhide hfin w' hbb); clear hb hbb)
          all_goals
            go_wp2
            go_roundw
            case rel => exact ⟨q + 1, by omega, by go_num, by exact (unhide HF).2, by rw [unhide HX]; exact (unhide HF).1⟩
            case measure => simp [intOf]; omega
        · obtain rfl : q = N i := by omega
          have hxl : (X i).length = N i * 2 := ((unhide HR).own i hlt).1
          have hO2 : Hid (wr.ownsRow 0 72 2 (V i) (N i) (marks [.string (wd (M i)), .int .i64 0] (N i))) := by
            have := unhide hOy
            rw [List.drop_eq_nil_of_le (by omega), List.append_nil] at this
            show World.ownsRow _ _ _ _ _ _ _
            rw [unhide HV]; exact this
          have hap : ∀ j, j < k → j ≠ i → ∀ b, (V j).ownBlock = some b → ¬ (Value.slice va (N i) vc).ownBlock = some b := by
            intro j hj hne b hb hb'
            exact (unhide HR).apart j i hj hlt hne b hb (by rw [unhide HV]; exact hb')
          have hD2 : Hid (∀ j, j < i + 1 → wr.ownsRow 0 72 2 (V j) (N j) (marks [.string (wd (M j)), .int .i64 0] (N j))) := by
            intro j hj
            by_cases e : j = i
            · subst e; exact unhide hO2
            · exact (unhide hTy).own (unhide oH _ _ _ _ _ _ (unhide hD j (by omega))) (hap j (by omega) e)
          have hT2 : Hid (∀ j, i + 1 ≤ j → j < k → wr.ownsRow 0 72 2 (V j) (N j) (X j)) := by
            intro j h1 h2
            exact (unhide hTy).own (unhide oH _ _ _ _ _ _ (unhide hT j (by omega) h2)) (hap j h2 (by omega))
          have hTo2 : Hid (Touch (fun b => ∃ i, i < k ∧ (V i).ownBlock = some b) w wr) := by
            show Touch _ _ _
            exact (unhide TH).trans (unhide hTy) (fun j _ hj => ⟨i, hlt, by rw [unhide HV]; exact hj⟩)
          clear hap hxl hO2 hOy hTy hD hT hTo TH oH
          go_wp2
          go_roundw
          case rel => exact ⟨i + 1, by omega, by go_num, hD2, hT2, hTo2⟩
          case measure => simp [intOf]; omega
    · obtain rfl : i = k := by omega
      go_wp2
      go_end0
      exact ⟨rfl, ⟨unhide hD, (unhide HR).apart⟩, unhide hTo⟩
end Go.Proofs.YtcpellddjlmegaaGreatDoor.Bk
