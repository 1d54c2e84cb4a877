/- What fillNode leaves: every list of nodes that the Book holds is all marks. -/
import Derived.Test.YtcpellddjlmegaaGreatDoorBookFill
import Derived.Test.YtcpellddjlmegaaGreatDoorBookKeepD
namespace Go.Proofs.YtcpellddjlmegaaGreatDoor.Bk
open Go.RowKit

theorem own_below {w w' : World} {base : Nat} {e : TypeId} {size : Nat} {v : Value} {n : Nat} {xs : List Value} (h : w.ownsRow base e size v n xs) (hb : Below w.heap.size w w') : w'.ownsRow base e size v n xs :=
  h.kept (row := none) ⟨hb.os, hb.tape, hb.output, hb.size, fun k hk _ => hb.block k hk⟩ (by cases v.ownBlock <;> simp)
theorem set_mark10 (a0 a1 a2 a3 a4 a5 a6 a7 a8 a9 : Value) (k : Nat) (X : List Value) (hk : k * 10 + 9 < X.length) : (((((((((((marks [a0, a1, a2, a3, a4, a5, a6, a7, a8, a9] k ++ X.drop (k * 10)).set (k * 10) a0).set (k * 10 + 1) a1).set (k * 10 + 2) a2).set (k * 10 + 3) a3).set (k * 10 + 4) a4).set (k * 10 + 5) a5).set (k * 10 + 6) a6).set (k * 10 + 7) a7).set (k * 10 + 8) a8).set (k * 10 + 9) a9) = marks [a0, a1, a2, a3, a4, a5, a6, a7, a8, a9] (k + 1) ++ X.drop ((k + 1) * 10) := by
  have hl : (marks [a0, a1, a2, a3, a4, a5, a6, a7, a8, a9] k).length = k * 10 := by rw [marks_length]; simp
  have hd : X.drop (k * 10) = X[k * 10] :: X[k * 10 + 1] :: X[k * 10 + 2] :: X[k * 10 + 3] :: X[k * 10 + 4] :: X[k * 10 + 5] :: X[k * 10 + 6] :: X[k * 10 + 7] :: X[k * 10 + 8] :: X[k * 10 + 9] :: X.drop (k * 10 + 10) := by
    rw [List.drop_eq_getElem_cons (by omega), List.drop_eq_getElem_cons (by omega), List.drop_eq_getElem_cons (by omega), List.drop_eq_getElem_cons (by omega), List.drop_eq_getElem_cons (by omega), List.drop_eq_getElem_cons (by omega), List.drop_eq_getElem_cons (by omega), List.drop_eq_getElem_cons (by omega), List.drop_eq_getElem_cons (by omega), List.drop_eq_getElem_cons (by omega)]
  rw [List.set_append_right _ _ (by omega), hl, Nat.sub_self, hd, List.set_cons_zero, List.set_append_right _ _ (by omega), hl, List.set_append_right _ _ (by omega), hl, List.set_append_right _ _ (by omega), hl, List.set_append_right _ _ (by omega), hl, List.set_append_right _ _ (by omega), hl, List.set_append_right _ _ (by omega), hl, List.set_append_right _ _ (by omega), hl, List.set_append_right _ _ (by omega), hl, List.set_append_right _ _ (by omega), hl]
  rw [show k * 10 + 1 - k * 10 = 1 from by omega, show k * 10 + 2 - k * 10 = 2 from by omega, show k * 10 + 3 - k * 10 = 3 from by omega, show k * 10 + 4 - k * 10 = 4 from by omega, show k * 10 + 5 - k * 10 = 5 from by omega, show k * 10 + 6 - k * 10 = 6 from by omega, show k * 10 + 7 - k * 10 = 7 from by omega, show k * 10 + 8 - k * 10 = 8 from by omega, show k * 10 + 9 - k * 10 = 9 from by omega]
  rw [show (k + 1) * 10 = k * 10 + 10 from by omega]
  simp only [List.set_cons_succ, List.set_cons_zero, marks, List.append_assoc]
  rfl

set_option maxHeartbeats 1000000 in
set_option maxRecDepth 100000 in
theorem fillNode_any (P k : Nat) (u : Value) (cur : List Value) (V : Nat → Value) (M N : Nat → Nat) (X : Nat → List Value) (w : World) (hB : Own w P cur) (h3 : cur[10]? = some u) (hu : w.ownsRow 0 116 3 u k (held V (fun _ => .slice none 0 0) M k))
    (hR : Rows1 w 51 10 k V N X) (hM : ∀ i, i < k → M i < 100) (hN : ∀ i, i < k → N i ≤ 4194304) (hk : k ≤ 1000000) :
    Calls Tryz.prog 27 #[.pointer (some ⟨P, 0, none⟩)] w fun e w' => e = .returned (.tuple #[]) ∧ Rows1 w' 51 10 k V N (fun i => marks [.int .u8 0, .int .i64 (rmD (M i)), .int .i64 0, .int .i64 0, .int .i64 0, .int .i64 0, .slice none 0 0, .string ⟨#[]⟩, .slice none 0 0, .int .i64 0] (N i)) ∧ Touch (fun b => ∃ i, i < k ∧ (V i).ownBlock = some b) w w' := by
  have c3 : w.cell? ⟨P, 10, none⟩ = some u := (hB.cellAt 10 (by omega)).trans h3
  have hPlt : P < w.heap.size := (own_block hB P rfl).1
  have HB := hide hB
  have HU := hide hu
  have HR := hide hR
  have HM := hide hM
  have HN := hide hN
  obtain ⟨ua, uc, rfl⟩ := own_shape hu
  clear hB hu hR hM hN h3
  go_enter Tryz.func27, Tryz.ntmps27
  go_wp2
  go_loopw [2] (fun s2 wr => ∃ i : Nat, i ≤ k ∧ s2 = .int .i64 i ∧ Hid (∀ j, j < i → wr.ownsRow 0 51 10 (V j) (N j) (marks [.int .u8 0, .int .i64 (rmD (M j)), .int .i64 0, .int .i64 0, .int .i64 0, .int .i64 0, .slice none 0 0, .string ⟨#[]⟩, .slice none 0 0, .int .i64 0] (N j))) ∧ Hid (∀ j, i ≤ j → j < k → wr.ownsRow 0 51 10 (V j) (N j) (X j)) ∧
      Hid (Touch (fun b => ∃ i, i < k ∧ (V i).ownBlock = some b) w wr)) (fun s2 _ => k - (intOf s2).toNat)
  case atStart => exact ⟨0, Nat.zero_le _, rfl, fun j hj => absurd hj (Nat.not_lt_zero _), fun j _ hj => (unhide HR).own j hj, Touch.refl _ _⟩
  case round =>
    obtain ⟨i, hik, rfl, hD, hT, hTo⟩ := hrel
    obtain ⟨wo, hwo⟩ : ∃ wo : World, wo = wr := ⟨_, rfl⟩
    subst hwo
    have c3r : wo.cell? ⟨P, 10, none⟩ = some (.slice ua k uc) := (unhide hTo).cell c3 (fun ⟨j, hj, e⟩ => own_ne ((unhide HR).own j hj) (unhide HB) (by decide) P e rfl)
    by_cases hlt : i < k
    · obtain ⟨gu, rfl, _⟩ := row_at (unhide HU) (by omega)
      have hur := (unhide hTo).own (unhide HU) (fun b hb ⟨j, hj, e⟩ => own_ne ((unhide HR).own j hj) (unhide HU) (by decide) b e hb)
      obtain ⟨e1, e2, e3⟩ := held_get V (fun _ => .slice none 0 0) M k i hlt
      obtain ⟨va, vc, hv⟩ := own_shape ((unhide HR).own i hlt)
      have d1 : wo.cell? ⟨gu, i * 3, none⟩ = some (.slice va (N i) vc) := (hur.cellAt (i * 3) (by omega)).trans (hv ▸ e1)
      have d2 : wo.cell? ⟨gu, i * 3 + 1, none⟩ = some (.slice none 0 0) := (hur.cellAt (i * 3 + 1) (by omega)).trans e2
      have d3 : wo.cell? ⟨gu, i * 3 + 2, none⟩ = some (.int .i64 (M i)) := (hur.cellAt (i * 3 + 2) (by omega)).trans e3
      have hn := unhide HN i hlt
      have HV := hide hv
      clear hur e1 e2 e3 hv
      go_wp2
      obtain ⟨wH, hwH⟩ : ∃ wH, wH = wo.alloc (.cells #[.slice va (N i) vc, .slice none 0 0, .int .i64 (M i)] 116) := ⟨_, rfl⟩
      have q0 : wH.cell? ⟨wo.heap.size, 0, none⟩ = some (.slice va (N i) vc) := by rw [hwH]; simp
      have q2 : wH.cell? ⟨wo.heap.size, 2, none⟩ = some (.int .i64 (M i)) := by rw [hwH]; simp
      have TH : Hid (Touch (fun b => ∃ i, i < k ∧ (V i).ownBlock = some b) w wH) := by rw [hwH]; exact (unhide hTo).alloc _
      have oH : Hid (∀ j e s v n xs, wo.ownsRow j e s v n xs → wH.ownsRow j e s v n xs) := by rw [hwH]; exact fun j e s v n xs h => h.alloc _
      have hbi : Hid (∀ b, (Value.slice va (N i) vc).ownBlock = some b → b < wo.heap.size) := fun b hb => (own_block (unhide hT i (Nat.le_refl _) hlt) b (unhide HV ▸ hb)).1
      have hsH : wH.heap.size = wo.heap.size + 1 := by rw [hwH]; simp
      rw [← hwH]
      clear hwH d1 d2 d3 c3r
      have HSH := hide hsH
      clear hsH
      go_loopw [4] (fun s4 wy => ∃ q : Nat, q ≤ N i ∧ s4 = .int .i64 q ∧ Hid (Touch (fun b => (Value.slice va (N i) vc).ownBlock = some b) wH wy) ∧ Hid (wy.ownsRow 0 51 10 (.slice va (N i) vc) (N i) (marks [.int .u8 0, .int .i64 (rmD (M i)), .int .i64 0, .int .i64 0, .int .i64 0, .int .i64 0, .slice none 0 0, .string ⟨#[]⟩, .slice none 0 0, .int .i64 0] q ++ (X i).drop (q * 10)))) (fun s4 _ => N i - (intOf s4).toNat)
      case atStart => exact ⟨0, Nat.zero_le _, rfl, Touch.refl _ _, by have := unhide oH _ _ _ _ _ _ (unhide hT i (Nat.le_refl _) hlt); rw [unhide HV] at this; simpa [marks, Hid] using this⟩
      case round =>
        obtain ⟨q, hq, rfl, hTy, hOy⟩ := hrel
        have q0' : wr.cell? ⟨wo.heap.size, 0, none⟩ = some (.slice va (N i) vc) := (unhide hTy).cell q0 (fun e => by have := unhide hbi _ e; simp at this)
        have q2' : wr.cell? ⟨wo.heap.size, 2, none⟩ = some (.int .i64 (M i)) := (unhide hTy).cell q2 (fun e => by have := unhide hbi _ e; simp at this)
        by_cases hqn : q < N i
        · obtain ⟨g, rfl, _⟩ := row_at (unhide hOy) (by omega)
          have hxl : (X i).length = N i * 10 := ((unhide HR).own i hlt).1
          have hml : (marks [.int .u8 0, .int .i64 (rmD (M i)), .int .i64 0, .int .i64 0, .int .i64 0, .int .i64 0, .slice none 0 0, .string ⟨#[]⟩, .slice none 0 0, .int .i64 0] q).length = q * 10 := by rw [marks_length]; simp
          obtain ⟨o1, ho1⟩ : ∃ old, (marks [.int .u8 0, .int .i64 (rmD (M i)), .int .i64 0, .int .i64 0, .int .i64 0, .int .i64 0, .slice none 0 0, .string ⟨#[]⟩, .slice none 0 0, .int .i64 0] q ++ (X i).drop (q * 10))[q * 10]? = some old := ⟨_, List.getElem?_eq_getElem (by rw [List.length_append, hml, List.length_drop]; omega)⟩
          obtain ⟨o2, ho2⟩ : ∃ old, (marks [.int .u8 0, .int .i64 (rmD (M i)), .int .i64 0, .int .i64 0, .int .i64 0, .int .i64 0, .slice none 0 0, .string ⟨#[]⟩, .slice none 0 0, .int .i64 0] q ++ (X i).drop (q * 10))[q * 10 + 1]? = some old := ⟨_, List.getElem?_eq_getElem (by rw [List.length_append, hml, List.length_drop]; omega)⟩
          obtain ⟨o3, ho3⟩ : ∃ old, (marks [.int .u8 0, .int .i64 (rmD (M i)), .int .i64 0, .int .i64 0, .int .i64 0, .int .i64 0, .slice none 0 0, .string ⟨#[]⟩, .slice none 0 0, .int .i64 0] q ++ (X i).drop (q * 10))[q * 10 + 2]? = some old := ⟨_, List.getElem?_eq_getElem (by rw [List.length_append, hml, List.length_drop]; omega)⟩
          obtain ⟨o4, ho4⟩ : ∃ old, (marks [.int .u8 0, .int .i64 (rmD (M i)), .int .i64 0, .int .i64 0, .int .i64 0, .int .i64 0, .slice none 0 0, .string ⟨#[]⟩, .slice none 0 0, .int .i64 0] q ++ (X i).drop (q * 10))[q * 10 + 3]? = some old := ⟨_, List.getElem?_eq_getElem (by rw [List.length_append, hml, List.length_drop]; omega)⟩
          obtain ⟨o5, ho5⟩ : ∃ old, (marks [.int .u8 0, .int .i64 (rmD (M i)), .int .i64 0, .int .i64 0, .int .i64 0, .int .i64 0, .slice none 0 0, .string ⟨#[]⟩, .slice none 0 0, .int .i64 0] q ++ (X i).drop (q * 10))[q * 10 + 4]? = some old := ⟨_, List.getElem?_eq_getElem (by rw [List.length_append, hml, List.length_drop]; omega)⟩
          obtain ⟨o6, ho6⟩ : ∃ old, (marks [.int .u8 0, .int .i64 (rmD (M i)), .int .i64 0, .int .i64 0, .int .i64 0, .int .i64 0, .slice none 0 0, .string ⟨#[]⟩, .slice none 0 0, .int .i64 0] q ++ (X i).drop (q * 10))[q * 10 + 5]? = some old := ⟨_, List.getElem?_eq_getElem (by rw [List.length_append, hml, List.length_drop]; omega)⟩
          obtain ⟨o7, ho7⟩ : ∃ old, (marks [.int .u8 0, .int .i64 (rmD (M i)), .int .i64 0, .int .i64 0, .int .i64 0, .int .i64 0, .slice none 0 0, .string ⟨#[]⟩, .slice none 0 0, .int .i64 0] q ++ (X i).drop (q * 10))[q * 10 + 6]? = some old := ⟨_, List.getElem?_eq_getElem (by rw [List.length_append, hml, List.length_drop]; omega)⟩
          obtain ⟨o8, ho8⟩ : ∃ old, (marks [.int .u8 0, .int .i64 (rmD (M i)), .int .i64 0, .int .i64 0, .int .i64 0, .int .i64 0, .slice none 0 0, .string ⟨#[]⟩, .slice none 0 0, .int .i64 0] q ++ (X i).drop (q * 10))[q * 10 + 7]? = some old := ⟨_, List.getElem?_eq_getElem (by rw [List.length_append, hml, List.length_drop]; omega)⟩
          obtain ⟨o9, ho9⟩ : ∃ old, (marks [.int .u8 0, .int .i64 (rmD (M i)), .int .i64 0, .int .i64 0, .int .i64 0, .int .i64 0, .slice none 0 0, .string ⟨#[]⟩, .slice none 0 0, .int .i64 0] q ++ (X i).drop (q * 10))[q * 10 + 8]? = some old := ⟨_, List.getElem?_eq_getElem (by rw [List.length_append, hml, List.length_drop]; omega)⟩
          obtain ⟨o10, ho10⟩ : ∃ old, (marks [.int .u8 0, .int .i64 (rmD (M i)), .int .i64 0, .int .i64 0, .int .i64 0, .int .i64 0, .slice none 0 0, .string ⟨#[]⟩, .slice none 0 0, .int .i64 0] q ++ (X i).drop (q * 10))[q * 10 + 9]? = some old := ⟨_, List.getElem?_eq_getElem (by rw [List.length_append, hml, List.length_drop]; omega)⟩
          have cg1 : wr.cell? ⟨g, q * 10, none⟩ = some o1 := ((unhide hOy).cellAt (q * 10) (by omega)).trans ho1
          have cg2 : wr.cell? ⟨g, q * 10 + 1, none⟩ = some o2 := ((unhide hOy).cellAt (q * 10 + 1) (by omega)).trans ho2
          have cg3 : wr.cell? ⟨g, q * 10 + 2, none⟩ = some o3 := ((unhide hOy).cellAt (q * 10 + 2) (by omega)).trans ho3
          have cg4 : wr.cell? ⟨g, q * 10 + 3, none⟩ = some o4 := ((unhide hOy).cellAt (q * 10 + 3) (by omega)).trans ho4
          have cg5 : wr.cell? ⟨g, q * 10 + 4, none⟩ = some o5 := ((unhide hOy).cellAt (q * 10 + 4) (by omega)).trans ho5
          have cg6 : wr.cell? ⟨g, q * 10 + 5, none⟩ = some o6 := ((unhide hOy).cellAt (q * 10 + 5) (by omega)).trans ho6
          have cg7 : wr.cell? ⟨g, q * 10 + 6, none⟩ = some o7 := ((unhide hOy).cellAt (q * 10 + 6) (by omega)).trans ho7
          have cg8 : wr.cell? ⟨g, q * 10 + 7, none⟩ = some o8 := ((unhide hOy).cellAt (q * 10 + 7) (by omega)).trans ho8
          have cg9 : wr.cell? ⟨g, q * 10 + 8, none⟩ = some o9 := ((unhide hOy).cellAt (q * 10 + 8) (by omega)).trans ho9
          have cg10 : wr.cell? ⟨g, q * 10 + 9, none⟩ = some o10 := ((unhide hOy).cellAt (q * 10 + 9) (by omega)).trans ho10
          have fg1 := (unhide hOy).frozenAt (q * 10)
          have fg2 := (unhide hOy).frozenAt (q * 10 + 1)
          have fg3 := (unhide hOy).frozenAt (q * 10 + 2)
          have fg4 := (unhide hOy).frozenAt (q * 10 + 3)
          have fg5 := (unhide hOy).frozenAt (q * 10 + 4)
          have fg6 := (unhide hOy).frozenAt (q * 10 + 5)
          have fg7 := (unhide hOy).frozenAt (q * 10 + 6)
          have fg8 := (unhide hOy).frozenAt (q * 10 + 7)
          have fg9 := (unhide hOy).frozenAt (q * 10 + 8)
          have fg10 := (unhide hOy).frozenAt (q * 10 + 9)
          have hgl := (own_block (unhide hOy) g rfl).1
          have hHl : wo.heap.size < wr.heap.size := by have := (unhide hTy).size; rw [unhide HSH] at this; omega
          have hqn' : (q : Int) < (N i : Int) := by omega
          have hfin : Hid (∀ w', Below wr.heap.size wr w' → ((((((((((w'.setCell ⟨g, q * 10, none⟩ (.int .u8 0)).setCell ⟨g, q * 10 + 1, none⟩ (.int .i64 (rmD (M i)))).setCell ⟨g, q * 10 + 2, none⟩ (.int .i64 0)).setCell ⟨g, q * 10 + 3, none⟩ (.int .i64 0)).setCell ⟨g, q * 10 + 4, none⟩ (.int .i64 0)).setCell ⟨g, q * 10 + 5, none⟩ (.int .i64 0)).setCell ⟨g, q * 10 + 6, none⟩ (.slice none 0 0)).setCell ⟨g, q * 10 + 7, none⟩ (.string ⟨#[]⟩)).setCell ⟨g, q * 10 + 8, none⟩ (.slice none 0 0)).setCell ⟨g, q * 10 + 9, none⟩ (.int .i64 0)).ownsRow 0 51 10 (.slice (some ⟨g, 0, none⟩) (N i) vc) (N i) (marks [.int .u8 0, .int .i64 (rmD (M i)), .int .i64 0, .int .i64 0, .int .i64 0, .int .i64 0, .slice none 0 0, .string ⟨#[]⟩, .slice none 0 0, .int .i64 0] (q + 1) ++ (X i).drop ((q + 1) * 10)) ∧
              Touch (fun b => (Value.slice (some ⟨g, 0, none⟩) (N i) vc).ownBlock = some b) wH ((((((((((w'.setCell ⟨g, q * 10, none⟩ (.int .u8 0)).setCell ⟨g, q * 10 + 1, none⟩ (.int .i64 (rmD (M i)))).setCell ⟨g, q * 10 + 2, none⟩ (.int .i64 0)).setCell ⟨g, q * 10 + 3, none⟩ (.int .i64 0)).setCell ⟨g, q * 10 + 4, none⟩ (.int .i64 0)).setCell ⟨g, q * 10 + 5, none⟩ (.int .i64 0)).setCell ⟨g, q * 10 + 6, none⟩ (.slice none 0 0)).setCell ⟨g, q * 10 + 7, none⟩ (.string ⟨#[]⟩)).setCell ⟨g, q * 10 + 8, none⟩ (.slice none 0 0)).setCell ⟨g, q * 10 + 9, none⟩ (.int .i64 0))) := by
            intro w' hb
            refine ⟨?_, ((((((((((((unhide hTy).below hb).setCell (p := ⟨g, q * 10, none⟩) (fun _ => rfl) _).setCell (p := ⟨g, q * 10 + 1, none⟩) (fun _ => rfl) _).setCell (p := ⟨g, q * 10 + 2, none⟩) (fun _ => rfl) _).setCell (p := ⟨g, q * 10 + 3, none⟩) (fun _ => rfl) _).setCell (p := ⟨g, q * 10 + 4, none⟩) (fun _ => rfl) _).setCell (p := ⟨g, q * 10 + 5, none⟩) (fun _ => rfl) _).setCell (p := ⟨g, q * 10 + 6, none⟩) (fun _ => rfl) _).setCell (p := ⟨g, q * 10 + 7, none⟩) (fun _ => rfl) _).setCell (p := ⟨g, q * 10 + 8, none⟩) (fun _ => rfl) _).setCell (p := ⟨g, q * 10 + 9, none⟩) (fun _ => rfl) _)⟩
            have h1 := ((own_below (unhide hOy) hb).stored (q * 10) (.int .u8 0)).1
            have h2 := (h1.stored (q * 10 + 1) (.int .i64 (rmD (M i)))).1
            have h3 := (h2.stored (q * 10 + 2) (.int .i64 0)).1
            have h4 := (h3.stored (q * 10 + 3) (.int .i64 0)).1
            have h5 := (h4.stored (q * 10 + 4) (.int .i64 0)).1
            have h6 := (h5.stored (q * 10 + 5) (.int .i64 0)).1
            have h7 := (h6.stored (q * 10 + 6) (.slice none 0 0)).1
            have h8 := (h7.stored (q * 10 + 7) (.string ⟨#[]⟩)).1
            have h9 := (h8.stored (q * 10 + 8) (.slice none 0 0)).1
            have h10 := (h9.stored (q * 10 + 9) (.int .i64 0)).1
            rw [set_mark10 _ _ _ _ _ _ _ _ _ _ q (X i) (by omega)] at h10
            exact h10
          obtain ⟨x, hx⟩ : ∃ x, rmD (M i) = x := ⟨_, rfl⟩
          have HC : Hid (∀ w, Calls Tryz.prog 74 #[.int .i64 (M i)] w fun e w' => e = .returned (.agg #[.int .u8 0, .int .i64 x, .int .i64 0, .int .i64 0, .int .i64 0, .int .i64 0, .slice none 0 0, .string ⟨#[]⟩, .slice none 0 0, .int .i64 0]) ∧ Below w.heap.size w w') := fun w => hx ▸ markNode_any (M i) w (unhide HM i hlt)
          rw [hx] at hfin
          have HX := hide hx
          clear ho1 ho2 ho3 ho4 ho5 ho6 ho7 ho8 ho9 ho10 hxl hml hx
          go_wp2
          go_region_with (go_at_call 74; refine (unhide HC _).mono ?_; rintro e w' ⟨rfl, hb⟩; have hbb : Below wr.heap.size wr w' := ⟨hb.os, hb.tape, hb.output, hb.size, hb.block⟩; have a1 := (hbb.cell (p := ⟨wo.heap.size, 0, none⟩) hHl).trans q0'; have a2 := (hbb.cell (p := ⟨wo.heap.size, 2, none⟩) hHl).trans q2'; have b1 := (hbb.cell (p := ⟨g, q * 10, none⟩) hgl).trans cg1; have d1 := (hbb.frozen (p := ⟨g, q * 10, none⟩) hgl).trans fg1; have b2 := (hbb.cell (p := ⟨g, q * 10 + 1, none⟩) hgl).trans cg2; have d2 := (hbb.frozen (p := ⟨g, q * 10 + 1, none⟩) hgl).trans fg2; have b3 := (hbb.cell (p := ⟨g, q * 10 + 2, none⟩) hgl).trans cg3; have d3 := (hbb.frozen (p := ⟨g, q * 10 + 2, none⟩) hgl).trans fg3; have b4 := (hbb.cell (p := ⟨g, q * 10 + 3, none⟩) hgl).trans cg4; have d4 := (hbb.frozen (p := ⟨g, q * 10 + 3, none⟩) hgl).trans fg4; have b5 := (hbb.cell (p := ⟨g, q * 10 + 4, none⟩) hgl).trans cg5; have d5 := (hbb.frozen (p := ⟨g, q * 10 + 4, none⟩) hgl).trans fg5; have b6 := (hbb.cell (p := ⟨g, q * 10 + 5, none⟩) hgl).trans cg6; have d6 := (hbb.frozen (p := ⟨g, q * 10 + 5, none⟩) hgl).trans fg6; have b7 := (hbb.cell (p := ⟨g, q * 10 + 6, none⟩) hgl).trans cg7; have d7 := (hbb.frozen (p := ⟨g, q * 10 + 6, none⟩) hgl).trans fg7; have b8 := (hbb.cell (p := ⟨g, q * 10 + 7, none⟩) hgl).trans cg8; have d8 := (hbb.frozen (p := ⟨g, q * 10 + 7, none⟩) hgl).trans fg8; have b9 := (hbb.cell (p := ⟨g, q * 10 + 8, none⟩) hgl).trans cg9; have d9 := (hbb.frozen (p := ⟨g, q * 10 + 8, none⟩) hgl).trans fg9; have b10 := (hbb.cell (p := ⟨g, q * 10 + 9, none⟩) hgl).trans cg10; have d10 := (hbb.frozen (p := ⟨g, q * 10 + 9, none⟩) hgl).trans fg10; have HF := hide (unhide hfin w' hbb); clear hb hbb)
          all_goals
            go_wp2
            go_roundw
            case rel => exact ⟨q + 1, by omega, by go_num, by exact (unhide HF).2, by rw [unhide HX]; exact (unhide HF).1⟩
            case measure => simp [intOf]; omega
        · obtain rfl : q = N i := by omega
          have hxl : (X i).length = N i * 10 := ((unhide HR).own i hlt).1
          have hO2 : Hid (wr.ownsRow 0 51 10 (V i) (N i) (marks [.int .u8 0, .int .i64 (rmD (M i)), .int .i64 0, .int .i64 0, .int .i64 0, .int .i64 0, .slice none 0 0, .string ⟨#[]⟩, .slice none 0 0, .int .i64 0] (N i))) := by
            have := unhide hOy
            rw [List.drop_eq_nil_of_le (by omega), List.append_nil] at this
            show World.ownsRow _ _ _ _ _ _ _
            rw [unhide HV]; exact this
          have hap : ∀ j, j < k → j ≠ i → ∀ b, (V j).ownBlock = some b → ¬ (Value.slice va (N i) vc).ownBlock = some b := by
            intro j hj hne b hb hb'
            exact (unhide HR).apart j i hj hlt hne b hb (by rw [unhide HV]; exact hb')
          have hD2 : Hid (∀ j, j < i + 1 → wr.ownsRow 0 51 10 (V j) (N j) (marks [.int .u8 0, .int .i64 (rmD (M j)), .int .i64 0, .int .i64 0, .int .i64 0, .int .i64 0, .slice none 0 0, .string ⟨#[]⟩, .slice none 0 0, .int .i64 0] (N j))) := by
            intro j hj
            by_cases e : j = i
            · subst e; exact unhide hO2
            · exact (unhide hTy).own (unhide oH _ _ _ _ _ _ (unhide hD j (by omega))) (hap j (by omega) e)
          have hT2 : Hid (∀ j, i + 1 ≤ j → j < k → wr.ownsRow 0 51 10 (V j) (N j) (X j)) := by
            intro j h1 h2
            exact (unhide hTy).own (unhide oH _ _ _ _ _ _ (unhide hT j (by omega) h2)) (hap j h2 (by omega))
          have hTo2 : Hid (Touch (fun b => ∃ i, i < k ∧ (V i).ownBlock = some b) w wr) := by
            show Touch _ _ _
            exact (unhide TH).trans (unhide hTy) (fun j _ hj => ⟨i, hlt, by rw [unhide HV]; exact hj⟩)
          clear hap hxl hO2 hOy hTy hD hT hTo TH oH
          go_wp2
          go_roundw
          case rel => exact ⟨i + 1, by omega, by go_num, hD2, hT2, hTo2⟩
          case measure => simp [intOf]; omega
    · obtain rfl : i = k := by omega
      go_wp2
      go_end0
      exact ⟨rfl, ⟨unhide hD, (unhide HR).apart⟩, unhide hTo⟩
end Go.Proofs.YtcpellddjlmegaaGreatDoor.Bk
