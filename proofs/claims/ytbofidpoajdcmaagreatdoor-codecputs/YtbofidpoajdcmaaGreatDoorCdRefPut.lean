/- The document's Put. -/
import Derived.Test.YtbofidpoajdcmaaGreatDoorCdRefEnv
import Derived.Test.YtbofidpoajdcmaaGreatDoorCdRead2
namespace Go.Proofs.YtbofidpoajdcmaaGreatDoor.Cd
open Go.RowKit Cu Tr

/-- the call's box, and its data, as they were -/
def Pk (w W : World) (c : Ca) (a : Option Addr) (cap : Nat) : Prop := Cb W w.heap.size c (.slice a c.data.length cap) ∧ By W a c.data.length cap c.data ∧ (0 < c.data.length → ∀ ad, a = some ad → ad.block < w.heap.size + 1)
theorem Pk.below {w W W' : World} {c : Ca} {a : Option Addr} {cap : Nat} (h : Pk w W c a cap) (hb : Below (w.heap.size + 1) W W') : Pk w W' c a cap :=
  ⟨(hb.block _ (Nat.lt_succ_self _)).trans h.1, By.low h.2.1 h.2.2 hb, h.2.2⟩
theorem Pk.drew {w W : World} {c : Ca} {a : Option Addr} {cap : Nat} (h : Pk w W c a cap) : Pk w W.drew c a cap := h.below ⟨rfl, rfl, rfl, Nat.le_refl _, fun _ _ => rfl⟩
theorem S3_of {w W : World} {c : Ca} {a : Option Addr} {cap : Nat} (h : Pk w W c a cap) : W.cell? ⟨w.heap.size, 0, none⟩ = some (.int .u8 (c.kind.toNat : Int)) ∧ W.cell? ⟨w.heap.size, 1, none⟩ = some (.string c.path) ∧ W.cell? ⟨w.heap.size, 2, none⟩ = some (.string c.other) := ⟨h.1.at 0 _ rfl, h.1.at 1 _ rfl, h.1.at 2 _ rfl⟩
theorem S4_of {w W : World} {c : Ca} {a : Option Addr} {cap : Nat} (h : Pk w W c a cap) : W.cell? ⟨w.heap.size, 3, none⟩ = some (.int .i64 c.mode) ∧ W.cell? ⟨w.heap.size, 4, none⟩ = some (.int .i64 c.user) ∧ W.cell? ⟨w.heap.size, 5, none⟩ = some (.int .i64 c.group) ∧ W.cell? ⟨w.heap.size, 6, none⟩ = some (.int .i64 c.time) := ⟨h.1.at 3 _ rfl, h.1.at 4 _ rfl, h.1.at 5 _ rfl, h.1.at 6 _ rfl⟩
theorem S5_of {w W : World} {c : Ca} {a : Option Addr} {cap : Nat} (h : Pk w W c a cap) : W.cell? ⟨w.heap.size, 7, none⟩ = some (.slice a c.data.length cap) ∧ W.cell? ⟨w.heap.size, 8, none⟩ = some (.int .i64 c.eu) ∧ W.cell? ⟨w.heap.size, 9, none⟩ = some (.int .i64 c.eg) ∧ W.cell? ⟨w.heap.size, 10, none⟩ = some (.int .i64 c.em) ∧ W.cell? ⟨w.heap.size, 11, none⟩ = some (.int .i64 c.ed) ∧ (convert 23 9 (.slice a c.data.length cap)).run Tryz.prog W = .ok (.string (ba c.data)) W := ⟨h.1.at 7 _ rfl, h.1.at 8 _ rfl, h.1.at 9 _ rfl, h.1.at 10 _ rfl, h.1.at 11 _ rfl, cv_by h.2.1⟩
theorem row_lit (w : World) (B : Nat) (x : UInt8) (hB : B ≤ w.heap.size) : Row B (.slice (some ⟨w.heap.size, 0, none⟩) 1 1) [x] (w.alloc (.cells #[.int .u8 (x.toNat : Int)] 5)) :=
  ⟨rfl, .inr ⟨w.heap.size, 1, _, rfl, hB, heap_alloc_new w _, Nat.le_refl _, by unfold maxLen; omega, rfl, rfl⟩⟩
theorem row_drew {w : World} {B : Nat} {v : Value} {l : Bs} (h : Row B v l w) : Row B v l w.drew := row_below h (below_drewN (Below.refl _ _) 1)
set_option maxHeartbeats 4000000 in
set_option maxRecDepth 100000 in
theorem rput_any (c : Ca) (a : Option Addr) (cap : Nat) (w : World) (hB : By w a c.data.length cap c.data) (h1 : c.path.size ≤ 4611686018427387904) (h2 : c.other.size ≤ 4611686018427387904) (h3 : c.data.length ≤ 4611686018427387904) :
    Calls Tryz.prog 10 #[cav c a cap] w (PutR c w) := by
  have P0 : Hid (Pk w (w.alloc (.cells (ca c (.slice a c.data.length cap)) 27 (0, 0))) c a cap) := ⟨heap_alloc_new w _, hB.below (below_new w _), fun h0 ad e => by have := By.in hB h0 ad e; omega⟩
  have b0 := hide (below_new w (.cells (ca c (.slice a c.data.length cap)) 27 (0, 0)))
  have k1 := (unhide P0).1.at 1 (.string c.path) rfl
  have k2 := (unhide P0).1.at 2 (.string c.other) rfl
  have k7 := (unhide P0).1.at 7 (.slice a c.data.length cap) rfl
  have hM : Hid (mayPut c = (decide (c.path.size ≤ 65536) && decide (c.other.size ≤ 65536) && decide (c.data.length ≤ 65536))) := rfl
  clear hB
  go_enter Tryz.func10, Tryz.ntmps10
  by_cases hm1 : c.path.size ≤ 65536
  · by_cases hm2 : c.other.size ≤ 65536
    · by_cases hm3 : c.data.length ≤ 65536
      · have hm : Hid (mayPut c = true) := hide (by rw [unhide hM]; simp [hm1, hm2, hm3])
        have hq1 : ¬ (65536 : Int) < (c.path.size : Int) := by omega
        have hq2 : ¬ (65536 : Int) < (c.other.size : Int) := by omega
        have hq3 : ¬ (65536 : Int) < (c.data.length : Int) := by omega
        have b1 : Below (w.heap.size + 1) (w.alloc (.cells (ca c (.slice a c.data.length cap)) 27 (0, 0))) ((w.alloc (.cells (ca c (.slice a c.data.length cap)) 27 (0, 0))).alloc (.cells #[.int .u8 (c.kind.toNat : Int)] 5)).drew := below_drewN (below_new (w.alloc (.cells (ca c (.slice a c.data.length cap)) 27 (0, 0))) _) 1 |>.mono (by simp)
        have P1 := (unhide P0).below b1
        have R1 := row_drew (row_lit (w.alloc (.cells (ca c (.slice a c.data.length cap)) 27 (0, 0))) (w.heap.size + 1) c.kind (by simp))
        have z1 : w.heap.size + 1 ≤ ((w.alloc (.cells (ca c (.slice a c.data.length cap)) 27 (0, 0))).alloc (.cells #[.int .u8 (c.kind.toNat : Int)] 5)).drew.heap.size := by show _ ≤ ((w.alloc _).alloc _).heap.size; simp
        rw [World.size_alloc] at R1
        have K1 := hide (rtext2_any (w.heap.size + 1) _ _ c.path _ R1 z1 (by simp) hm1)
        have hS0 := S3_of (unhide P0).drew
        have hSL := S3_of P1
        have HP1 := hide P1
        have Z1 := hide z1
        have BB1 : Hid (Below w.heap.size w ((w.alloc (.cells (ca c (.slice a c.data.length cap)) 27 (0, 0))).alloc (.cells #[.int .u8 (c.kind.toNat : Int)] 5)).drew) := (unhide b0).trans (b1.mono (Nat.le_succ _))
        clear b1 P1 R1 z1
        go_wp2_with fail
        refine wp_region_held_drew (S := (fun w' => w'.cell? ⟨w.heap.size, 0, none⟩ = some (.int .u8 (c.kind.toNat : Int)) ∧ w'.cell? ⟨w.heap.size, 1, none⟩ = some (.string c.path) ∧ w'.cell? ⟨w.heap.size, 2, none⟩ = some (.string c.other))) (by kernel_rfl) hS0 (fun hHeld => ?_)
        refine wpAnyH_take (i := 0) (oi := _) (v := ?v1) rfl (by kernel_rfl) (by kernel_rfl) (by kernel_rfl) (fun _ _ _ h => h) (Or.inl ⟨by rfl, ?hy1⟩) (by assumption) ?rest1
        case hy1 => (intro w hSw; (try dsimp only at hSw); go_simp; try with_reducible rfl)
        simp only [Act.put, List.getElem_toArray, List.getElem_cons_zero, List.setIfInBounds_toArray, List.set_cons_zero, List.set_cons_succ]
        refine wpAnyH_take (i := 1) (oi := _) (v := ?v2) rfl (by kernel_rfl) (by kernel_rfl) (by kernel_rfl) (fun _ _ _ h => h) (Or.inl ⟨by rfl, ?hy2⟩) (by assumption) ?rest2
        case hy2 => (intro w hSw; (try dsimp only at hSw); go_simp; try with_reducible rfl)
        simp only [Act.put, List.getElem_toArray, List.getElem_cons_zero, List.getElem_cons_succ, List.setIfInBounds_toArray, List.set_cons_zero, List.set_cons_succ]
        refine wpAnyH_take (i := 3) (oi := _) (v := ?v3) rfl (by kernel_rfl) (by kernel_rfl) (by kernel_rfl) (fun _ _ _ h => h) (Or.inl ⟨by rfl, ?hy3⟩) (by assumption) ?rest3
        case hy3 => (intro w hSw; (try dsimp only at hSw); go_simp; try with_reducible rfl)
        simp only [Act.put, List.getElem_toArray, List.getElem_cons_zero, List.getElem_cons_succ, List.setIfInBounds_toArray, List.set_cons_zero, List.set_cons_succ]
        refine wpAnyH_take (i := 4) (oi := _) (v := ?v4) rfl (by kernel_rfl) (by kernel_rfl) (by kernel_rfl) (fun _ _ _ h => h) (Or.inl ⟨by rfl, ?hy4⟩) (by assumption) ?rest4
        case hy4 => (intro w hSw; (try dsimp only at hSw); go_simp; try with_reducible rfl)
        simp only [Act.put, List.getElem_toArray, List.getElem_cons_zero, List.getElem_cons_succ, List.setIfInBounds_toArray, List.set_cons_zero, List.set_cons_succ]
        refine wpAnyH_take (i := 6) (oi := _) (v := ?v5) rfl (by kernel_rfl) (by kernel_rfl) (by kernel_rfl) (fun _ _ _ h => h) (Or.inl ⟨by rfl, ?hy5⟩) (by assumption) ?rest5
        case hy5 => (intro w hSw; (try dsimp only at hSw); go_simp; try with_reducible rfl)
        simp only [Act.put, List.getElem_toArray, List.getElem_cons_zero, List.getElem_cons_succ, List.setIfInBounds_toArray, List.set_cons_zero, List.set_cons_succ]
        refine wpAnyH_take (i := 7) (oi := _) (v := ?v6) rfl (by kernel_rfl) (by kernel_rfl) (by kernel_rfl) (fun _ _ _ h => h) (Or.inl ⟨by rfl, ?hy6⟩) (by assumption) ?rest6
        case hy6 => (intro w hSw; (try dsimp only at hSw); go_simp; try with_reducible rfl)
        simp only [Act.put, List.getElem_toArray, List.getElem_cons_zero, List.getElem_cons_succ, List.setIfInBounds_toArray, List.set_cons_zero, List.set_cons_succ]
        refine wpAnyH_ready (rs := [2]) (by kernel_rfl) (by simp) ?_
        refine AllReadyH.cons (o := _) rfl (fun KK hKK => ?_) AllReadyH.nil
        go_simp
        skip
        go_wp2_with fail
        refine hKK.out _ _ (by first | assumption | (dsimp only; assumption)) (fun hHeld2 => ?_)
        clear hKK KK
        try simp only [Act.put, List.getElem_toArray, List.getElem_cons_zero, List.getElem_cons_succ, List.setIfInBounds_toArray, List.set_cons_zero, List.set_cons_succ]
        refine wpAnyH_ready (rs := [5]) (by kernel_rfl) (by simp) ?_
        refine AllReadyH.cons (o := _) rfl (fun KK hKK => ?_) AllReadyH.nil
        go_simp
        refine (unhide K1).mono ?_; rintro e w1 ⟨v1, rfl, hR1, hb1⟩; have HP2 := hide ((unhide HP1).below hb1); have hS1 := S3_of (unhide HP2); have Z2 := hide (Nat.le_trans (unhide Z1) hb1.size); have BB2 := hide ((unhide BB1).trans (hb1.mono (Nat.le_succ _))); have K2 := hide (rtext2_any (w.heap.size + 1) v1 _ c.other w1 hR1 (unhide Z2) (by simp [txtB_len]; omega) hm2); clear hR1 hb1 K1
        go_wp2_with fail
        refine hKK.out _ _ (by first | assumption | (dsimp only; assumption)) (fun hHeld2 => ?_)
        clear hKK KK
        try simp only [Act.put, List.getElem_toArray, List.getElem_cons_zero, List.getElem_cons_succ, List.setIfInBounds_toArray, List.set_cons_zero, List.set_cons_succ]
        refine wpAnyH_ready (rs := [8]) (by kernel_rfl) (by simp) ?_
        refine AllReadyH.cons (o := _) rfl (fun KK hKK => ?_) AllReadyH.nil
        go_simp
        refine (unhide K2).mono ?_; rintro e w2 ⟨v2, rfl, hR2, hb2⟩; have HP3 := hide ((unhide HP2).below hb2); have hS2 := S3_of (unhide HP3); have Z3 := hide (Nat.le_trans (unhide Z2) hb2.size); have BB3 := hide ((unhide BB2).trans (hb2.mono (Nat.le_succ _))); have HR2 := hide hR2; clear hR2 hb2 K2
        go_wp2_with fail
        refine hKK.out _ _ (by first | assumption | (dsimp only; assumption)) (fun hHeld2 => ?_)
        clear hKK KK
        try simp only [Act.put, List.getElem_toArray, List.getElem_cons_zero, List.getElem_cons_succ, List.setIfInBounds_toArray, List.set_cons_zero, List.set_cons_succ]
        refine wpAnyH_take (i := 9) (oi := _) (v := ?v10) rfl (by kernel_rfl) (by kernel_rfl) (by kernel_rfl) (fun _ _ _ h => h) (Or.inl ⟨by rfl, ?hy10⟩) (by assumption) ?rest10
        case hy10 => (intro w hSw; (try dsimp only at hSw); go_simp; try with_reducible rfl)
        simp only [Act.put, List.getElem_toArray, List.getElem_cons_zero, List.getElem_cons_succ, List.setIfInBounds_toArray, List.set_cons_zero, List.set_cons_succ]
        refine wpAnyH_done (by kernel_rfl) ?_ _
        go_wp2_with fail
        have HR2d := hide (row_drew (unhide HR2))
        have HP3d := hide (unhide HP3).drew
        have hS3 := S4_of (unhide HP3d)
        have Z3d : Hid (w.heap.size + 1 ≤ w2.drew.heap.size) := unhide Z3
        have BB3d : Hid (Below w.heap.size w w2.drew) := below_drewN (unhide BB3) 1
        have K3 := hide ((rnumber_any (w.heap.size + 1) v2 _ c.mode w2.drew (unhide HR2d) (unhide Z3d) (by simp [txtB_len]; omega)).mono fun e w' q => q.low (unhide HR2d) (unhide Z3d))
        clear HR2 HP3 hS2 hHeld hHeld2 HP2 hS1 hS0 hSL HP1
        refine wp_region_held_drew (S := (fun w' => w'.cell? ⟨w.heap.size, 3, none⟩ = some (.int .i64 c.mode) ∧ w'.cell? ⟨w.heap.size, 4, none⟩ = some (.int .i64 c.user) ∧ w'.cell? ⟨w.heap.size, 5, none⟩ = some (.int .i64 c.group) ∧ w'.cell? ⟨w.heap.size, 6, none⟩ = some (.int .i64 c.time))) (by kernel_rfl) hS3 (fun hHeld => ?_)
        refine wpAnyH_take (i := 0) (oi := _) (v := ?v41) rfl (by kernel_rfl) (by kernel_rfl) (by kernel_rfl) (fun _ _ _ h => h) (Or.inl ⟨by rfl, ?hy41⟩) (by assumption) ?rest41
        case hy41 => (intro w hSw; (try dsimp only at hSw); go_simp; try with_reducible rfl)
        simp only [Act.put, List.getElem_toArray, List.getElem_cons_zero, List.setIfInBounds_toArray, List.set_cons_zero, List.set_cons_succ]
        refine wpAnyH_take (i := 1) (oi := _) (v := ?v42) rfl (by kernel_rfl) (by kernel_rfl) (by kernel_rfl) (fun _ _ _ h => h) (Or.inl ⟨by rfl, ?hy42⟩) (by assumption) ?rest42
        case hy42 => (intro w hSw; (try dsimp only at hSw); go_simp; try with_reducible rfl)
        simp only [Act.put, List.getElem_toArray, List.getElem_cons_zero, List.getElem_cons_succ, List.setIfInBounds_toArray, List.set_cons_zero, List.set_cons_succ]
        refine wpAnyH_take (i := 2) (oi := _) (v := ?v43) rfl (by kernel_rfl) (by kernel_rfl) (by kernel_rfl) (fun _ _ _ h => h) (Or.inl ⟨by rfl, ?hy43⟩) (by assumption) ?rest43
        case hy43 => (intro w hSw; (try dsimp only at hSw); go_simp; try with_reducible rfl)
        simp only [Act.put, List.getElem_toArray, List.getElem_cons_zero, List.getElem_cons_succ, List.setIfInBounds_toArray, List.set_cons_zero, List.set_cons_succ]
        refine wpAnyH_take (i := 4) (oi := _) (v := ?v44) rfl (by kernel_rfl) (by kernel_rfl) (by kernel_rfl) (fun _ _ _ h => h) (Or.inl ⟨by rfl, ?hy44⟩) (by assumption) ?rest44
        case hy44 => (intro w hSw; (try dsimp only at hSw); go_simp; try with_reducible rfl)
        simp only [Act.put, List.getElem_toArray, List.getElem_cons_zero, List.getElem_cons_succ, List.setIfInBounds_toArray, List.set_cons_zero, List.set_cons_succ]
        refine wpAnyH_take (i := 5) (oi := _) (v := ?v45) rfl (by kernel_rfl) (by kernel_rfl) (by kernel_rfl) (fun _ _ _ h => h) (Or.inl ⟨by rfl, ?hy45⟩) (by assumption) ?rest45
        case hy45 => (intro w hSw; (try dsimp only at hSw); go_simp; try with_reducible rfl)
        simp only [Act.put, List.getElem_toArray, List.getElem_cons_zero, List.getElem_cons_succ, List.setIfInBounds_toArray, List.set_cons_zero, List.set_cons_succ]
        refine wpAnyH_take (i := 7) (oi := _) (v := ?v46) rfl (by kernel_rfl) (by kernel_rfl) (by kernel_rfl) (fun _ _ _ h => h) (Or.inl ⟨by rfl, ?hy46⟩) (by assumption) ?rest46
        case hy46 => (intro w hSw; (try dsimp only at hSw); go_simp; try with_reducible rfl)
        simp only [Act.put, List.getElem_toArray, List.getElem_cons_zero, List.getElem_cons_succ, List.setIfInBounds_toArray, List.set_cons_zero, List.set_cons_succ]
        refine wpAnyH_take (i := 8) (oi := _) (v := ?v47) rfl (by kernel_rfl) (by kernel_rfl) (by kernel_rfl) (fun _ _ _ h => h) (Or.inl ⟨by rfl, ?hy47⟩) (by assumption) ?rest47
        case hy47 => (intro w hSw; (try dsimp only at hSw); go_simp; try with_reducible rfl)
        simp only [Act.put, List.getElem_toArray, List.getElem_cons_zero, List.getElem_cons_succ, List.setIfInBounds_toArray, List.set_cons_zero, List.set_cons_succ]
        refine wpAnyH_take (i := 10) (oi := _) (v := ?v48) rfl (by kernel_rfl) (by kernel_rfl) (by kernel_rfl) (fun _ _ _ h => h) (Or.inl ⟨by rfl, ?hy48⟩) (by assumption) ?rest48
        case hy48 => (intro w hSw; (try dsimp only at hSw); go_simp; try with_reducible rfl)
        simp only [Act.put, List.getElem_toArray, List.getElem_cons_zero, List.getElem_cons_succ, List.setIfInBounds_toArray, List.set_cons_zero, List.set_cons_succ]
        refine wpAnyH_take (i := 11) (oi := _) (v := ?v49) rfl (by kernel_rfl) (by kernel_rfl) (by kernel_rfl) (fun _ _ _ h => h) (Or.inl ⟨by rfl, ?hy49⟩) (by assumption) ?rest49
        case hy49 => (intro w hSw; (try dsimp only at hSw); go_simp; try with_reducible rfl)
        simp only [Act.put, List.getElem_toArray, List.getElem_cons_zero, List.getElem_cons_succ, List.setIfInBounds_toArray, List.set_cons_zero, List.set_cons_succ]
        refine wpAnyH_ready (rs := [3]) (by kernel_rfl) (by simp) ?_
        refine AllReadyH.cons (o := _) rfl (fun K hK => ?_) AllReadyH.nil
        go_simp
        refine (unhide K3).mono ?_; rintro e w4 ⟨v4, rfl, hR4, hb4⟩; have HP4 := hide ((unhide HP3d).below hb4); have hS4 := S4_of (unhide HP4); have Z4 := hide (Nat.le_trans (unhide Z3d) hb4.size); have BB4 := hide ((unhide BB3d).trans (hb4.mono (Nat.le_succ _))); have HR4 := hide hR4; have K4 := hide ((rnumber_any (w.heap.size + 1) v4 _ c.user w4 hR4 (unhide Z4) (by simp [txtB_len, numB_len]; omega)).mono fun e w' q => q.low (unhide HR4) (unhide Z4)); clear hR4 hb4 K3
        go_wp2_with fail
        refine hK.out _ _ (by first | assumption | (dsimp only; assumption)) (fun hHeld2 => ?_)
        clear hK K
        try simp only [Act.put, List.getElem_toArray, List.getElem_cons_zero, List.getElem_cons_succ, List.setIfInBounds_toArray, List.set_cons_zero, List.set_cons_succ]
        refine wpAnyH_ready (rs := [6]) (by kernel_rfl) (by simp) ?_
        refine AllReadyH.cons (o := _) rfl (fun K hK => ?_) AllReadyH.nil
        go_simp
        refine (unhide K4).mono ?_; rintro e w5 ⟨v5, rfl, hR5, hb5⟩; have HP5 := hide ((unhide HP4).below hb5); have hS5 := S4_of (unhide HP5); have Z5 := hide (Nat.le_trans (unhide Z4) hb5.size); have BB5 := hide ((unhide BB4).trans (hb5.mono (Nat.le_succ _))); have HR5 := hide hR5; have K5 := hide ((rnumber_any (w.heap.size + 1) v5 _ c.group w5 hR5 (unhide Z5) (by simp [txtB_len, numB_len]; omega)).mono fun e w' q => q.low (unhide HR5) (unhide Z5)); clear hR5 hb5 K4
        go_wp2_with fail
        refine hK.out _ _ (by first | assumption | (dsimp only; assumption)) (fun hHeld2 => ?_)
        clear hK K
        try simp only [Act.put, List.getElem_toArray, List.getElem_cons_zero, List.getElem_cons_succ, List.setIfInBounds_toArray, List.set_cons_zero, List.set_cons_succ]
        refine wpAnyH_ready (rs := [9]) (by kernel_rfl) (by simp) ?_
        refine AllReadyH.cons (o := _) rfl (fun K hK => ?_) AllReadyH.nil
        go_simp
        refine (unhide K5).mono ?_; rintro e w6 ⟨v6, rfl, hR6, hb6⟩; have HP6 := hide ((unhide HP5).below hb6); have hS6 := S4_of (unhide HP6); have Z6 := hide (Nat.le_trans (unhide Z5) hb6.size); have BB6 := hide ((unhide BB5).trans (hb6.mono (Nat.le_succ _))); have HR6 := hide hR6; have K6 := hide ((rnumber_any (w.heap.size + 1) v6 _ c.time w6 hR6 (unhide Z6) (by simp [txtB_len, numB_len]; omega)).mono fun e w' q => q.low (unhide HR6) (unhide Z6)); clear hR6 hb6 K5
        go_wp2_with fail
        refine hK.out _ _ (by first | assumption | (dsimp only; assumption)) (fun hHeld2 => ?_)
        clear hK K
        try simp only [Act.put, List.getElem_toArray, List.getElem_cons_zero, List.getElem_cons_succ, List.setIfInBounds_toArray, List.set_cons_zero, List.set_cons_succ]
        refine wpAnyH_ready (rs := [12]) (by kernel_rfl) (by simp) ?_
        refine AllReadyH.cons (o := _) rfl (fun K hK => ?_) AllReadyH.nil
        go_simp
        refine (unhide K6).mono ?_; rintro e w7 ⟨v7, rfl, hR7, hb7⟩; have HP7 := hide ((unhide HP6).below hb7); have hS7 := S4_of (unhide HP7); have Z7 := hide (Nat.le_trans (unhide Z6) hb7.size); have BB7 := hide ((unhide BB6).trans (hb7.mono (Nat.le_succ _))); have HR7 := hide hR7; clear hR7 hb7 K6
        go_wp2_with fail
        refine hK.out _ _ (by first | assumption | (dsimp only; assumption)) (fun hHeld2 => ?_)
        clear hK K
        try simp only [Act.put, List.getElem_toArray, List.getElem_cons_zero, List.getElem_cons_succ, List.setIfInBounds_toArray, List.set_cons_zero, List.set_cons_succ]
        refine wpAnyH_take (i := 13) (oi := _) (v := ?v54) rfl (by kernel_rfl) (by kernel_rfl) (by kernel_rfl) (fun _ _ _ h => h) (Or.inl ⟨by rfl, ?hy54⟩) (by assumption) ?rest54
        case hy54 => (intro w hSw; (try dsimp only at hSw); go_simp; try with_reducible rfl)
        simp only [Act.put, List.getElem_toArray, List.getElem_cons_zero, List.getElem_cons_succ, List.setIfInBounds_toArray, List.set_cons_zero, List.set_cons_succ]
        refine wpAnyH_done (by kernel_rfl) ?_ _
        go_wp2_with fail
        have HR7d := hide (row_drew (unhide HR7))
        have HP7d := hide (unhide HP7).drew
        have hT0 := S5_of (unhide HP7d)
        have Z7d : Hid (w.heap.size + 1 ≤ w7.drew.heap.size) := unhide Z7
        have BB7d : Hid (Below w.heap.size w w7.drew) := below_drewN (unhide BB7) 1
        have K7 := hide (rtext2_any (w.heap.size + 1) v7 _ (ba c.data) w7.drew (unhide HR7d) (unhide Z7d) (by simp [txtB_len, numB_len]; omega) hm3)
        clear HR7 HP7 hS3 hS4 hS5 hS6 hS7 HP4 HP5 HP6 HR4 HR5 HR6 HR2d HP3d Z3d BB3d hHeld hHeld2
        refine wp_region_held_drew (S := (fun w' => w'.cell? ⟨w.heap.size, 7, none⟩ = some (.slice a c.data.length cap) ∧ w'.cell? ⟨w.heap.size, 8, none⟩ = some (.int .i64 c.eu) ∧ w'.cell? ⟨w.heap.size, 9, none⟩ = some (.int .i64 c.eg) ∧ w'.cell? ⟨w.heap.size, 10, none⟩ = some (.int .i64 c.em) ∧ w'.cell? ⟨w.heap.size, 11, none⟩ = some (.int .i64 c.ed) ∧ (convert 23 9 (.slice a c.data.length cap)).run Tryz.prog w' = .ok (.string (ba c.data)) w')) (by kernel_rfl) hT0 (fun hHeld => ?_)
        refine wpAnyH_take (i := 0) (oi := _) (v := ?v55) rfl (by kernel_rfl) (by kernel_rfl) (by kernel_rfl) (fun _ _ _ h => h) (Or.inl ⟨by rfl, ?hy55⟩) (by assumption) ?rest55
        case hy55 => (intro w hSw; (try dsimp only at hSw); go_simp; try with_reducible rfl)
        simp only [Act.put, List.getElem_toArray, List.getElem_cons_zero, List.setIfInBounds_toArray, List.set_cons_zero, List.set_cons_succ]
        refine wpAnyH_take (i := 1) (oi := _) (v := ?v56) rfl (by kernel_rfl) (by kernel_rfl) (by kernel_rfl) (fun _ _ _ h => h) (Or.inl ⟨by rfl, ?hy56⟩) (by assumption) ?rest56
        case hy56 => (intro w hSw; (try dsimp only at hSw); go_simp; try with_reducible rfl)
        simp only [Act.put, List.getElem_toArray, List.getElem_cons_zero, List.getElem_cons_succ, List.setIfInBounds_toArray, List.set_cons_zero, List.set_cons_succ]
        refine wpAnyH_take (i := 2) (oi := _) (v := ?v57) rfl (by kernel_rfl) (by kernel_rfl) (by kernel_rfl) (fun _ _ _ h => h) (Or.inl ⟨by rfl, ?hy57⟩) (by assumption) ?rest57
        case hy57 => (intro w hSw; (try dsimp only at hSw); go_simp; try with_reducible rfl)
        simp only [Act.put, List.getElem_toArray, List.getElem_cons_zero, List.getElem_cons_succ, List.setIfInBounds_toArray, List.set_cons_zero, List.set_cons_succ]
        refine wpAnyH_take (i := 3) (oi := _) (v := ?v58) rfl (by kernel_rfl) (by kernel_rfl) (by kernel_rfl) (fun _ _ _ h => h) (Or.inl ⟨by rfl, ?hy58⟩) (by assumption) ?rest58
        case hy58 => (intro w hSw; (try dsimp only at hSw); go_simp; try with_reducible rfl)
        simp only [Act.put, List.getElem_toArray, List.getElem_cons_zero, List.getElem_cons_succ, List.setIfInBounds_toArray, List.set_cons_zero, List.set_cons_succ]
        refine wpAnyH_take (i := 5) (oi := _) (v := ?v59) rfl (by kernel_rfl) (by kernel_rfl) (by kernel_rfl) (fun _ _ _ h => h) (Or.inl ⟨by rfl, ?hy59⟩) (by assumption) ?rest59
        case hy59 => (intro w hSw; (try dsimp only at hSw); go_simp; try with_reducible rfl)
        simp only [Act.put, List.getElem_toArray, List.getElem_cons_zero, List.getElem_cons_succ, List.setIfInBounds_toArray, List.set_cons_zero, List.set_cons_succ]
        refine wpAnyH_take (i := 6) (oi := _) (v := ?v60) rfl (by kernel_rfl) (by kernel_rfl) (by kernel_rfl) (fun _ _ _ h => h) (Or.inl ⟨by rfl, ?hy60⟩) (by assumption) ?rest60
        case hy60 => (intro w hSw; (try dsimp only at hSw); go_simp; try with_reducible rfl)
        simp only [Act.put, List.getElem_toArray, List.getElem_cons_zero, List.getElem_cons_succ, List.setIfInBounds_toArray, List.set_cons_zero, List.set_cons_succ]
        refine wpAnyH_ready (rs := [4]) (by kernel_rfl) (by simp) ?_
        refine AllReadyH.cons (o := _) rfl (fun K hK => ?_) AllReadyH.nil
        go_simp
        refine (unhide K7).mono ?_; rintro e w8 ⟨v8, rfl, hR8, hb8⟩; have HP8 := hide ((unhide HP7d).below hb8); have hT1 := S5_of (unhide HP8); have Z8 := hide (Nat.le_trans (unhide Z7d) hb8.size); have BB8 := hide ((unhide BB7d).trans (hb8.mono (Nat.le_succ _))); have HR8 := hide hR8; have K8 := hide (renv_any (w.heap.size + 1) v8 _ c.eu c.eg c.em c.ed w8 hR8 (unhide Z8) (by simp [txtB_len, numB_len, bs_ba]; omega)); clear hR8 hb8 K7
        go_wp2_with fail
        refine hK.out _ _ (by first | assumption | (dsimp only; assumption)) (fun hHeld2 => ?_)
        clear hK K
        try simp only [Act.put, List.getElem_toArray, List.getElem_cons_zero, List.getElem_cons_succ, List.setIfInBounds_toArray, List.set_cons_zero, List.set_cons_succ]
        refine wpAnyH_ready (rs := [7]) (by kernel_rfl) (by simp) ?_
        refine AllReadyH.cons (o := _) rfl (fun K hK => ?_) AllReadyH.nil
        go_simp
        refine (unhide K8).mono ?_; rintro e w9 ⟨v9, rfl, hR9, hb9⟩; have HP9 := hide ((unhide HP8).below hb9); have hT2 := S5_of (unhide HP9); have BB9 := hide ((unhide BB8).trans (hb9.mono (Nat.le_succ _))); have HR9 := hide hR9; clear hR9 hb9 K8
        go_wp2_with fail
        refine hK.out _ _ (by first | assumption | (dsimp only; assumption)) (fun hHeld2 => ?_)
        clear hK K
        try simp only [Act.put, List.getElem_toArray, List.getElem_cons_zero, List.getElem_cons_succ, List.setIfInBounds_toArray, List.set_cons_zero, List.set_cons_succ]
        refine wpAnyH_take (i := 8) (oi := _) (v := ?v63) rfl (by kernel_rfl) (by kernel_rfl) (by kernel_rfl) (fun _ _ _ h => h) (Or.inl ⟨by rfl, ?hy63⟩) (by assumption) ?rest63
        case hy63 => (intro w hSw; (try dsimp only at hSw); go_simp; try with_reducible rfl)
        simp only [Act.put, List.getElem_toArray, List.getElem_cons_zero, List.getElem_cons_succ, List.setIfInBounds_toArray, List.set_cons_zero, List.set_cons_succ]
        refine wpAnyH_take (i := 9) (oi := _) (v := ?v64) rfl (by kernel_rfl) (by kernel_rfl) (by kernel_rfl) (fun _ _ _ h => h) (Or.inl ⟨by rfl, ?hy64⟩) (by assumption) ?rest64
        case hy64 => (intro w hSw; (try dsimp only at hSw); go_simp; try with_reducible rfl)
        simp only [Act.put, List.getElem_toArray, List.getElem_cons_zero, List.getElem_cons_succ, List.setIfInBounds_toArray, List.set_cons_zero, List.set_cons_succ]
        refine wpAnyH_done (by kernel_rfl) ?_ _
        go_wp2_with fail
        go_ret2
        refine ⟨⟨v9, ?_, ?_⟩, unhide BB9⟩
        · exact congrArg (fun x => Ending.returned (.tuple #[v9, .int .i64 x])) (if_pos (unhide hm)).symm
        · rw [unhide hm, if_pos rfl]; refine row_base (B := w.heap.size + 1) ?_ (Nat.le_succ _); have q := unhide HR9; simpa [putP, numsB, bs_ba] using q

      · have hm : Hid (mayPut c = false) := hide (by rw [unhide hM]; simp [hm3])
        have hq1 : ¬ (65536 : Int) < (c.path.size : Int) := by omega
        have hq2 : ¬ (65536 : Int) < (c.other.size : Int) := by omega
        have hq3 : (65536 : Int) < (c.data.length : Int) := by omega
        go_wp2_with fail
        go_ret2
        refine ⟨⟨.slice none 0 0, ?_, ?_⟩, unhide b0⟩
        · exact congrArg (fun x => Ending.returned (.tuple #[.slice none 0 0, .int .i64 x])) (if_neg (by rw [unhide hm]; decide)).symm
        · rw [unhide hm, if_neg (by decide)]; exact row_nil _ _
    · have hm : Hid (mayPut c = false) := hide (by rw [unhide hM]; simp [hm2])
      have hq1 : ¬ (65536 : Int) < (c.path.size : Int) := by omega
      have hq2 : (65536 : Int) < (c.other.size : Int) := by omega
      go_wp2_with fail
      go_ret2
      refine ⟨⟨.slice none 0 0, ?_, ?_⟩, unhide b0⟩
      · exact congrArg (fun x => Ending.returned (.tuple #[.slice none 0 0, .int .i64 x])) (if_neg (by rw [unhide hm]; decide)).symm
      · rw [unhide hm, if_neg (by decide)]; exact row_nil _ _
  · have hm : Hid (mayPut c = false) := hide (by rw [unhide hM]; simp [hm1])
    have hq1 : (65536 : Int) < (c.path.size : Int) := by omega
    go_wp2_with fail
    go_ret2
    refine ⟨⟨.slice none 0 0, ?_, ?_⟩, unhide b0⟩
    · exact congrArg (fun x => Ending.returned (.tuple #[.slice none 0 0, .int .i64 x])) (if_neg (by rw [unhide hm]; decide)).symm
    · rw [unhide hm, if_neg (by decide)]; exact row_nil _ _
end Go.Proofs.YtbofidpoajdcmaaGreatDoor.Cd
