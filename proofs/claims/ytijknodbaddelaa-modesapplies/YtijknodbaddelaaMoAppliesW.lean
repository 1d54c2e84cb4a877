/- The law ModesApplies: walked. -/
import Derived.Test.YtijknodbaddelaaMoApply
import Derived.Test.YtijknodbaddelaaMoEq
import Derived.Test.YtijknodbaddelaaMoTwin
import Derived.Test.YtijknodbaddelaaBeyond
import Derived.Deep.RegionHeld3
namespace Go.Proofs.Ytijknodbaddelaa.Mo
open Go.RowKit

set_option maxRecDepth 100000 in
set_option maxHeartbeats 1000000 in
theorem applies_walk (a : Option Addr) (len cap : Nat) (cs : List Ch) (mode mask : Int) (dir : Bool) (w : World) (h : Cg w a len cap cs) (hlen : len ≤ 4611686018427387904) :
    Calls Try.prog 3 #[.slice a len cap, .agg #[.int .i64 mode, .int .i64 mask, .bool dir]] w fun e w' => e = .returned (.bool true) ∧ Below w.heap.size w w' := by
  have HR := hide h
  clear h
  by_cases hb : 1048576 < (len : Int)
  · go_enter Try.func3, Try.ntmps3
    go_wp2_with fail
    refine (Beyond.beyond_one len _ _ (by simp) (by omega) (by omega)).mono ?_
    rintro e w2 ⟨rfl, rfl⟩
    go_wp2_with fail
    go_ret
    exact ⟨rfl, by repeat (first | exact Below.refl _ _ | apply Below.setCell | apply Below.alloc | simp)⟩
  · go_enter Try.func3, Try.ntmps3
    go_wp2_with fail
    refine (Beyond.beyond_one len _ _ (by simp) (by omega) (by omega)).mono ?_
    rintro e w2 ⟨rfl, hw2⟩
    have hB2 : Below w.heap.size w w2 := by rw [hw2]; repeat (first | exact Below.refl _ _ | apply Below.setCell | apply Below.alloc | simp)
    have d0 : w2.cell? ⟨w.heap.size, 0, none⟩ = some (.int .i64 mode) := by rw [hw2]; simp [World.cell?_alloc_old]
    have d1 : w2.cell? ⟨w.heap.size, 1, none⟩ = some (.int .i64 mask) := by rw [hw2]; simp [World.cell?_alloc_old]
    have d2 : w2.cell? ⟨w.heap.size, 2, none⟩ = some (.bool dir) := by rw [hw2]; simp [World.cell?_alloc_old]
    have hz2 : w.heap.size < w2.heap.size := by rw [hw2]; simp; omega
    have HR2 := hide ((unhide HR).below hB2)
    clear hw2
    have C3 := hide (twin_any a len cap cap cs w2 (unhide HR2) (by omega))
    go_wp2_with fail
    refine (unhide C3).mono ?_
    rintro e w3 ⟨rfl, htw, hb3, hs3⟩
    have HB3 : Hid (Below w.heap.size w w3) := hB2.trans (hb3.mono hB2.size)
    have HR3 := hide ((unhide HR2).below hb3)
    have HW3 := hide htw
    have hg3 : Hid (w2.heap.size < w3.heap.size) := hs3
    have hz3 : w.heap.size < w3.heap.size := by omega
    have f0 := (hb3.cell (p := ⟨w.heap.size, 0, none⟩) hz2).trans d0
    have f1 := (hb3.cell (p := ⟨w.heap.size, 1, none⟩) hz2).trans d1
    have f2 := (hb3.cell (p := ⟨w.heap.size, 2, none⟩) hz2).trans d2
    clear C3 htw hb3 hs3 hB2 HR2 HR d0 d1 d2
    have hS0 : w3.cell? ⟨w.heap.size, 0, none⟩ = some (.int .i64 mode) ∧ w3.cell? ⟨w.heap.size, 1, none⟩ = some (.int .i64 mask) ∧ w3.cell? ⟨w.heap.size, 2, none⟩ = some (.bool dir) ∧ Hid (Below w3.heap.size w3 w3) := ⟨f0, f1, f2, Below.refl _ _⟩
    have hSd : w3.drew.cell? ⟨w.heap.size, 0, none⟩ = some (.int .i64 mode) ∧ w3.drew.cell? ⟨w.heap.size, 1, none⟩ = some (.int .i64 mask) ∧ w3.drew.cell? ⟨w.heap.size, 2, none⟩ = some (.bool dir) ∧ Hid (Below w3.heap.size w3 w3.drew) := ⟨f0, f1, f2, (Below.refl _ _).drew⟩
    obtain ⟨A, hA⟩ : ∃ A, A = applyP cs (m9 mode) mask dir := ⟨_, rfl⟩
    have keep : ∀ {W w' : World}, (W.cell? ⟨w.heap.size, 0, none⟩ = some (.int .i64 mode) ∧ W.cell? ⟨w.heap.size, 1, none⟩ = some (.int .i64 mask) ∧ W.cell? ⟨w.heap.size, 2, none⟩ = some (.bool dir) ∧ Hid (Below w3.heap.size w3 W)) → Below W.heap.size W w' →
        (w'.cell? ⟨w.heap.size, 0, none⟩ = some (.int .i64 mode) ∧ w'.cell? ⟨w.heap.size, 1, none⟩ = some (.int .i64 mask) ∧ w'.cell? ⟨w.heap.size, 2, none⟩ = some (.bool dir) ∧ Hid (Below w3.heap.size w3 w')) := by
      rintro W w' ⟨g0, g1, g2, g3⟩ hb
      have hz : w.heap.size < W.heap.size := by have := (unhide g3).size; omega
      exact ⟨(hb.cell (p := ⟨w.heap.size, 0, none⟩) hz).trans g0, (hb.cell (p := ⟨w.heap.size, 1, none⟩) hz).trans g1, (hb.cell (p := ⟨w.heap.size, 2, none⟩) hz).trans g2, (unhide g3).trans (hb.mono (unhide g3).size)⟩
    have K1 : Hid (∀ W, (W.cell? ⟨w.heap.size, 0, none⟩ = some (.int .i64 mode) ∧ W.cell? ⟨w.heap.size, 1, none⟩ = some (.int .i64 mask) ∧ W.cell? ⟨w.heap.size, 2, none⟩ = some (.bool dir) ∧ Hid (Below w3.heap.size w3 W)) →
        Calls Try.prog 7 #[.slice (some ⟨w2.heap.size, 0, none⟩) len (len + 1), .int .i64 mode, .int .i64 mask, .bool dir] W fun e w' => e = .returned (.int .i64 (A : Nat)) ∧ (w'.cell? ⟨w.heap.size, 0, none⟩ = some (.int .i64 mode) ∧ w'.cell? ⟨w.heap.size, 1, none⟩ = some (.int .i64 mask) ∧ w'.cell? ⟨w.heap.size, 2, none⟩ = some (.bool dir) ∧ Hid (Below w3.heap.size w3 w'))) := fun W h => by
      have hB := unhide h.2.2.2
      have hg : w2.heap.size < W.heap.size := Nat.lt_of_lt_of_le (unhide hg3) hB.size
      rw [hA]
      exact (apply_any (some ⟨w2.heap.size, 0, none⟩) len (len + 1) (len + 1) cs mode mask dir W ((unhide HR3).len ▸ ((unhide HW3).below (unhide hg3) hB).cg hg) hlen).mono fun e w' h2 => ⟨h2.1, keep h h2.2⟩
    have K2 : Hid (∀ W, (W.cell? ⟨w.heap.size, 0, none⟩ = some (.int .i64 mode) ∧ W.cell? ⟨w.heap.size, 1, none⟩ = some (.int .i64 mask) ∧ W.cell? ⟨w.heap.size, 2, none⟩ = some (.bool dir) ∧ Hid (Below w3.heap.size w3 W)) →
        Calls Try.prog 8 #[.slice a len cap, .int .i64 mode, .int .i64 mask, .bool dir] W fun e w' => e = .returned (.int .i64 (A : Nat)) ∧ (w'.cell? ⟨w.heap.size, 0, none⟩ = some (.int .i64 mode) ∧ w'.cell? ⟨w.heap.size, 1, none⟩ = some (.int .i64 mask) ∧ w'.cell? ⟨w.heap.size, 2, none⟩ = some (.bool dir) ∧ Hid (Below w3.heap.size w3 w'))) := fun W h => by
      have hB := unhide h.2.2.2
      rw [hA]
      exact (rapply_any a len cap cap cs mode mask dir W ((unhide HR3).below hB) hlen).mono fun e w' h2 => ⟨h2.1, keep h h2.2⟩
    have K3 : Hid (∀ W, (W.cell? ⟨w.heap.size, 0, none⟩ = some (.int .i64 mode) ∧ W.cell? ⟨w.heap.size, 1, none⟩ = some (.int .i64 mask) ∧ W.cell? ⟨w.heap.size, 2, none⟩ = some (.bool dir) ∧ Hid (Below w3.heap.size w3 W)) →
        Calls Try.prog 9 #[.slice (some ⟨w2.heap.size, 0, none⟩) len (len + 1), .slice a len cap] W fun e w' => e = .returned (.bool true) ∧ (w'.cell? ⟨w.heap.size, 0, none⟩ = some (.int .i64 mode) ∧ w'.cell? ⟨w.heap.size, 1, none⟩ = some (.int .i64 mask) ∧ w'.cell? ⟨w.heap.size, 2, none⟩ = some (.bool dir) ∧ Hid (Below w3.heap.size w3 w'))) := fun W h => by
      have hB := unhide h.2.2.2
      have hg : w2.heap.size < W.heap.size := Nat.lt_of_lt_of_le (unhide hg3) hB.size
      exact (left_any w2.heap.size a len cap cap cs W ((unhide HR3).below hB) (by omega) ((unhide HW3).below (unhide hg3) hB) hg).mono fun e w' h2 => ⟨h2.1, keep h h2.2⟩
    clear hA keep f0 f1 f2 HW3 HR3
    go_upto_region 4 with fail
    go_region_held3 (fun w' => w'.cell? ⟨w.heap.size, 0, none⟩ = some (.int .i64 mode) ∧ w'.cell? ⟨w.heap.size, 1, none⟩ = some (.int .i64 mask) ∧ w'.cell? ⟨w.heap.size, 2, none⟩ = some (.bool dir) ∧ Hid (Below w3.heap.size w3 w')) (first | assumption | go_keep)
      (first | ((with_reducible refine (unhide K1 _ (by assumption)).mono ?_); rintro e w' ⟨rfl, hS1⟩) | ((with_reducible refine (unhide K2 _ (by assumption)).mono ?_); rintro e w' ⟨rfl, hS2⟩) | ((with_reducible refine (unhide K3 _ (by assumption)).mono ?_); rintro e w' ⟨rfl, hS3⟩) | fail)
    go_wp2_with fail
    go_ret
    exact ⟨by first | rfl | simp, (unhide HB3).trans ((unhide hS3.2.2.2).mono (unhide HB3).size)⟩
end Go.Proofs.Ytijknodbaddelaa.Mo
