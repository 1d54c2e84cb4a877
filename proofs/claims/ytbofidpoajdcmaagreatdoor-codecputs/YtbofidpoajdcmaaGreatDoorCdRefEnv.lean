/- The document's env. -/
import Derived.Test.YtbofidpoajdcmaaGreatDoorCdRefNum
import Derived.Deep.RegionHeld3
import Derived.Outline
namespace Go.Proofs.YtbofidpoajdcmaaGreatDoor.Cd
open Go.RowKit Cu Tr

theorem Gk.ne {w w' : World} {o o' : Option Nat} {b : Nat} (h : Gk w w' o o') (hb : b < w.heap.size) (hne : some b ≠ o) : some b ≠ o' := by
  rcases h.at' with e | ⟨k, e, hk⟩
  · rw [e]; exact hne
  · rw [e]; intro e2; injection e2 with e2; omega
theorem Gk.cell {w w' : World} {o o' : Option Nat} {b : Nat} (h : Gk w w' o o') (hb : b < w.heap.size) (hne : some b ≠ o) (i : Nat) : w'.cell? ⟨b, i, none⟩ = w.cell? ⟨b, i, none⟩ := World.cell?_of_block (a := ⟨b, i, none⟩) (h.block b hb hne)
theorem keep4 {w w' : World} {o o' : Option Nat} {b : Nat} {x0 x1 x2 x3 : Value} (h : Gk w w' o o') (hb : b < w.heap.size) (hne : some b ≠ o) (hS : w.cell? ⟨b, 0, none⟩ = some x0 ∧ w.cell? ⟨b, 1, none⟩ = some x1 ∧ w.cell? ⟨b, 2, none⟩ = some x2 ∧ w.cell? ⟨b, 3, none⟩ = some x3) :
    w'.cell? ⟨b, 0, none⟩ = some x0 ∧ w'.cell? ⟨b, 1, none⟩ = some x1 ∧ w'.cell? ⟨b, 2, none⟩ = some x2 ∧ w'.cell? ⟨b, 3, none⟩ = some x3 :=
  ⟨(h.cell hb hne 0).trans hS.1, (h.cell hb hne 1).trans hS.2.1, (h.cell hb hne 2).trans hS.2.2.1, (h.cell hb hne 3).trans hS.2.2.2⟩
set_option maxHeartbeats 2000000 in
set_option maxRecDepth 100000 in
theorem renv_any (B : Nat) (v : Value) (out : Bs) (e0 e1 e2 e3 : Int) (w : World) (hR : Row B v out w) (hB : B ≤ w.heap.size) (hl : out.length ≤ 17592186044416) :
    Calls Tryz.prog 39 #[v, .agg #[.int .i64 e0, .int .i64 e1, .int .i64 e2, .int .i64 e3]] w (RefB B w (out ++ numsB [e0, e1, e2, e3])) := by
  obtain ⟨O, hO⟩ : ∃ O : Obj, O = .cells #[.int .i64 e0, .int .i64 e1, .int .i64 e2, .int .i64 e3] 25 := ⟨_, rfl⟩
  have b0 : Below w.heap.size w (w.alloc O).drew := below_drewN (below_new w O) 1
  have K1 := hide (rnumber_any B v out e0 (w.alloc O).drew (row_below hR b0) (Nat.le_trans hB b0.size) (by omega))
  have L0 : Hid (w.heap.size < (w.alloc O).drew.heap.size) := by show w.heap.size < (w.alloc O).heap.size; simp
  have N0 : Hid (some w.heap.size ≠ v.ownBlock) := fun e => by have := (hR.lt _ e.symm).2; omega
  have Z0 := hide b0.size
  have GG0 : Hid (Gk w (w.alloc O).drew v.ownBlock v.ownBlock) := Gk.of_below b0
  have hS0 : (w.alloc O).drew.cell? ⟨w.heap.size, 0, none⟩ = some (.int .i64 e0) ∧ (w.alloc O).drew.cell? ⟨w.heap.size, 1, none⟩ = some (.int .i64 e1) ∧ (w.alloc O).drew.cell? ⟨w.heap.size, 2, none⟩ = some (.int .i64 e2) ∧ (w.alloc O).drew.cell? ⟨w.heap.size, 3, none⟩ = some (.int .i64 e3) := by subst hO; simp
  have HR0 := hide hR
  subst hO
  clear hR b0
  go_enter Tryz.func39, Tryz.ntmps39
  go_wp2_with fail
  refine wp_region_held_drew (S := (fun w' => w'.cell? ⟨w.heap.size, 0, none⟩ = some (.int .i64 e0) ∧ w'.cell? ⟨w.heap.size, 1, none⟩ = some (.int .i64 e1) ∧ w'.cell? ⟨w.heap.size, 2, none⟩ = some (.int .i64 e2) ∧ w'.cell? ⟨w.heap.size, 3, none⟩ = some (.int .i64 e3))) (by kernel_rfl) hS0 (fun hHeld => ?_)
  refine wpAnyH_take (i := 0) (oi := _) (v := ?v1) rfl (by kernel_rfl) (by kernel_rfl) (by kernel_rfl) (fun _ _ _ h => h) (Or.inl ⟨by rfl, ?hy1⟩) (by assumption) ?rest1
  case hy1 => (intro w hSw; (try dsimp only at hSw); go_simp; try with_reducible rfl)
  simp only [Act.put, List.getElem_toArray, List.getElem_cons_zero, List.setIfInBounds_toArray, List.set_cons_zero, List.set_cons_succ]
  refine wpAnyH_take (i := 1) (oi := _) (v := ?v2) rfl (by kernel_rfl) (by kernel_rfl) (by kernel_rfl) (fun _ _ _ h => h) (Or.inl ⟨by rfl, ?hy2⟩) (by assumption) ?rest2
  case hy2 => (intro w hSw; (try dsimp only at hSw); go_simp; try with_reducible rfl)
  simp only [Act.put, List.getElem_toArray, List.getElem_cons_zero, List.getElem_cons_succ, List.setIfInBounds_toArray, List.set_cons_zero, List.set_cons_succ]
  refine wpAnyH_take (i := 2) (oi := _) (v := ?v3) rfl (by kernel_rfl) (by kernel_rfl) (by kernel_rfl) (fun _ _ _ h => h) (Or.inl ⟨by rfl, ?hy3⟩) (by assumption) ?rest3
  case hy3 => (intro w hSw; (try dsimp only at hSw); go_simp; try with_reducible rfl)
  simp only [Act.put, List.getElem_toArray, List.getElem_cons_zero, List.getElem_cons_succ, List.setIfInBounds_toArray, List.set_cons_zero, List.set_cons_succ]
  refine wpAnyH_take (i := 4) (oi := _) (v := ?v4) rfl (by kernel_rfl) (by kernel_rfl) (by kernel_rfl) (fun _ _ _ h => h) (Or.inl ⟨by rfl, ?hy4⟩) (by assumption) ?rest4
  case hy4 => (intro w hSw; (try dsimp only at hSw); go_simp; try with_reducible rfl)
  simp only [Act.put, List.getElem_toArray, List.getElem_cons_zero, List.getElem_cons_succ, List.setIfInBounds_toArray, List.set_cons_zero, List.set_cons_succ]
  refine wpAnyH_take (i := 5) (oi := _) (v := ?v5) rfl (by kernel_rfl) (by kernel_rfl) (by kernel_rfl) (fun _ _ _ h => h) (Or.inl ⟨by rfl, ?hy5⟩) (by assumption) ?rest5
  case hy5 => (intro w hSw; (try dsimp only at hSw); go_simp; try with_reducible rfl)
  simp only [Act.put, List.getElem_toArray, List.getElem_cons_zero, List.getElem_cons_succ, List.setIfInBounds_toArray, List.set_cons_zero, List.set_cons_succ]
  refine wpAnyH_take (i := 7) (oi := _) (v := ?v6) rfl (by kernel_rfl) (by kernel_rfl) (by kernel_rfl) (fun _ _ _ h => h) (Or.inl ⟨by rfl, ?hy6⟩) (by assumption) ?rest6
  case hy6 => (intro w hSw; (try dsimp only at hSw); go_simp; try with_reducible rfl)
  simp only [Act.put, List.getElem_toArray, List.getElem_cons_zero, List.getElem_cons_succ, List.setIfInBounds_toArray, List.set_cons_zero, List.set_cons_succ]
  refine wpAnyH_take (i := 8) (oi := _) (v := ?v7) rfl (by kernel_rfl) (by kernel_rfl) (by kernel_rfl) (fun _ _ _ h => h) (Or.inl ⟨by rfl, ?hy7⟩) (by assumption) ?rest7
  case hy7 => (intro w hSw; (try dsimp only at hSw); go_simp; try with_reducible rfl)
  simp only [Act.put, List.getElem_toArray, List.getElem_cons_zero, List.getElem_cons_succ, List.setIfInBounds_toArray, List.set_cons_zero, List.set_cons_succ]
  refine wpAnyH_take (i := 10) (oi := _) (v := ?v8) rfl (by kernel_rfl) (by kernel_rfl) (by kernel_rfl) (fun _ _ _ h => h) (Or.inl ⟨by rfl, ?hy8⟩) (by assumption) ?rest8
  case hy8 => (intro w hSw; (try dsimp only at hSw); go_simp; try with_reducible rfl)
  simp only [Act.put, List.getElem_toArray, List.getElem_cons_zero, List.getElem_cons_succ, List.setIfInBounds_toArray, List.set_cons_zero, List.set_cons_succ]
  refine wpAnyH_take (i := 11) (oi := _) (v := ?v9) rfl (by kernel_rfl) (by kernel_rfl) (by kernel_rfl) (fun _ _ _ h => h) (Or.inl ⟨by rfl, ?hy9⟩) (by assumption) ?rest9
  case hy9 => (intro w hSw; (try dsimp only at hSw); go_simp; try with_reducible rfl)
  simp only [Act.put, List.getElem_toArray, List.getElem_cons_zero, List.getElem_cons_succ, List.setIfInBounds_toArray, List.set_cons_zero, List.set_cons_succ]
  refine wpAnyH_ready (rs := [3]) (by kernel_rfl) (by simp) ?_
  refine AllReadyH.cons (o := _) rfl (fun KK hKK => ?_) AllReadyH.nil
  go_simp
  refine (unhide K1).mono ?_; rintro e w1 ⟨v1, rfl, hR1, hG1⟩; have hS1 := keep4 hG1 (unhide L0) (unhide N0) hS0; have N1 := hide (Gk.ne hG1 (unhide L0) (unhide N0)); have L1 := hide (Nat.lt_of_lt_of_le (unhide L0) hG1.size); have Z1 := hide (Nat.le_trans (unhide Z0) hG1.size); have GG1 := hide ((unhide GG0).trans hG1); have K2 := hide (rnumber_any B v1 _ e1 w1 hR1 (Nat.le_trans hB (unhide Z1)) (by simp [numB_len]; omega)); clear hR1; clear hG1 K1
  go_wp2_with fail
  refine hKK.out _ _ (by first | assumption | (dsimp only; assumption)) (fun hHeld2 => ?_)
  clear hKK KK
  try simp only [Act.put, List.getElem_toArray, List.getElem_cons_zero, List.getElem_cons_succ, List.setIfInBounds_toArray, List.set_cons_zero, List.set_cons_succ]
  refine wpAnyH_ready (rs := [6]) (by kernel_rfl) (by simp) ?_
  refine AllReadyH.cons (o := _) rfl (fun KK hKK => ?_) AllReadyH.nil
  go_simp
  refine (unhide K2).mono ?_; rintro e w2 ⟨v2, rfl, hR2, hG2⟩; have hS2 := keep4 hG2 (unhide L1) (unhide N1) hS1; have N2 := hide (Gk.ne hG2 (unhide L1) (unhide N1)); have L2 := hide (Nat.lt_of_lt_of_le (unhide L1) hG2.size); have Z2 := hide (Nat.le_trans (unhide Z1) hG2.size); have GG2 := hide ((unhide GG1).trans hG2); have K3 := hide (rnumber_any B v2 _ e2 w2 hR2 (Nat.le_trans hB (unhide Z2)) (by simp [numB_len]; omega)); clear hR2; clear hG2 K2
  go_wp2_with fail
  refine hKK.out _ _ (by first | assumption | (dsimp only; assumption)) (fun hHeld2 => ?_)
  clear hKK KK
  try simp only [Act.put, List.getElem_toArray, List.getElem_cons_zero, List.getElem_cons_succ, List.setIfInBounds_toArray, List.set_cons_zero, List.set_cons_succ]
  refine wpAnyH_ready (rs := [9]) (by kernel_rfl) (by simp) ?_
  refine AllReadyH.cons (o := _) rfl (fun KK hKK => ?_) AllReadyH.nil
  go_simp
  refine (unhide K3).mono ?_; rintro e w3 ⟨v3, rfl, hR3, hG3⟩; have hS3 := keep4 hG3 (unhide L2) (unhide N2) hS2; have N3 := hide (Gk.ne hG3 (unhide L2) (unhide N2)); have L3 := hide (Nat.lt_of_lt_of_le (unhide L2) hG3.size); have Z3 := hide (Nat.le_trans (unhide Z2) hG3.size); have GG3 := hide ((unhide GG2).trans hG3); have K4 := hide (rnumber_any B v3 _ e3 w3 hR3 (Nat.le_trans hB (unhide Z3)) (by simp [numB_len]; omega)); clear hR3; clear hG3 K3
  go_wp2_with fail
  refine hKK.out _ _ (by first | assumption | (dsimp only; assumption)) (fun hHeld2 => ?_)
  clear hKK KK
  try simp only [Act.put, List.getElem_toArray, List.getElem_cons_zero, List.getElem_cons_succ, List.setIfInBounds_toArray, List.set_cons_zero, List.set_cons_succ]
  refine wpAnyH_ready (rs := [12]) (by kernel_rfl) (by simp) ?_
  refine AllReadyH.cons (o := _) rfl (fun KK hKK => ?_) AllReadyH.nil
  go_simp
  refine (unhide K4).mono ?_; rintro e w4 ⟨v4, rfl, hR4, hG4⟩; have hS4 := keep4 hG4 (unhide L3) (unhide N3) hS3; have N4 := hide (Gk.ne hG4 (unhide L3) (unhide N3)); have L4 := hide (Nat.lt_of_lt_of_le (unhide L3) hG4.size); have Z4 := hide (Nat.le_trans (unhide Z3) hG4.size); have GG4 := hide ((unhide GG3).trans hG4); have HR4 := hide hR4; clear hR4; clear hG4 K4
  go_wp2_with fail
  refine hKK.out _ _ (by first | assumption | (dsimp only; assumption)) (fun hHeld2 => ?_)
  clear hKK KK
  try simp only [Act.put, List.getElem_toArray, List.getElem_cons_zero, List.getElem_cons_succ, List.setIfInBounds_toArray, List.set_cons_zero, List.set_cons_succ]
  refine wpAnyH_take (i := 13) (oi := _) (v := ?v14) rfl (by kernel_rfl) (by kernel_rfl) (by kernel_rfl) (fun _ _ _ h => h) (Or.inl ⟨by rfl, ?hy14⟩) (by assumption) ?rest14
  case hy14 => (intro w hSw; (try dsimp only at hSw); go_simp; try with_reducible rfl)
  simp only [Act.put, List.getElem_toArray, List.getElem_cons_zero, List.getElem_cons_succ, List.setIfInBounds_toArray, List.set_cons_zero, List.set_cons_succ]
  refine wpAnyH_done (by kernel_rfl) ?_ _
  go_wp2_with fail
  go_ret
  refine ⟨v4, rfl, ?_, (unhide GG4).below hB (row_lo (unhide HR0))⟩
  have := unhide HR4
  simpa [numsB] using this
end Go.Proofs.YtbofidpoajdcmaaGreatDoor.Cd
