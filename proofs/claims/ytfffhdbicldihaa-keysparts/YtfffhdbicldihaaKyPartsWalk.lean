/- KeysParts returns true, whatever the order and the line. -/
import Derived.Test.YtfffhdbicldihaaKyRefKey
import Derived.Test.YtfffhdbicldihaaKyKey
import Derived.Deep.RegionHeld3
namespace Go.Proofs.Ytfffhdbicldihaa.Ky
open Go.RowKit Go.Shelf

attribute [local go_sem] Oper.semAt_some

/-- what is held -/
def HeldP (w : World) (o : Ord) (W : World) : Prop := OR W w.heap.size o ∧ Below w.heap.size w W
theorem HeldP.step {w W W' : World} {o : Ord} (h : HeldP w o W) (b : Below W.heap.size W W') : HeldP w o W' := ⟨h.1.below b, h.2.trans (b.mono h.2.size)⟩
def P7 (w : World) (o : Ord) (W : World) : Prop :=
  W.cell? ⟨w.heap.size, 0, none⟩ = some (.bool o.num) ∧ W.cell? ⟨w.heap.size, 1, none⟩ = some (.bool o.fold) ∧ W.cell? ⟨w.heap.size, 2, none⟩ = some (.bool o.bls) ∧ W.cell? ⟨w.heap.size, 3, none⟩ = some (.bool o.rev) ∧ W.cell? ⟨w.heap.size, 4, none⟩ = some (.int .i64 o.fr) ∧ W.cell? ⟨w.heap.size, 5, none⟩ = some (.int .i64 o.«to») ∧ W.cell? ⟨w.heap.size, 6, none⟩ = some (.int .u8 (o.sep.toNat : Int)) ∧ Hid (HeldP w o W)
theorem P7.of {w W : World} {o : Ord} (h : HeldP w o W) : P7 w o W := by
  obtain ⟨h0, h1, h2, h3, h4, h5, h6⟩ := h.1.cells
  exact ⟨h0, h1, h2, h3, h4, h5, h6, h⟩
theorem P7.held {w W : World} {o : Ord} (h : P7 w o W) : HeldP w o W := unhide h.2.2.2.2.2.2.2

set_option maxRecDepth 100000 in
set_option maxHeartbeats 1000000 in
theorem keysParts_any (o : Ord) (s : ByteArray) (w : World) :
    Calls Try.prog 3 #[ov o, .string s] w fun e w' => e = .returned (.bool true) ∧ Below w.heap.size w w' := by
  have H0 : Hid (HeldP w o (w.alloc (.cells #[.bool o.num, .bool o.fold, .bool o.bls, .bool o.rev, .int .i64 o.fr, .int .i64 o.«to», .int .u8 (o.sep.toNat : Int)] 23))) := ⟨OR.new w o, (Below.refl _ _).alloc (Nat.le_refl _) _⟩
  by_cases h1 : (20000 : Int) < s.size
  · unfold ov
    go_enter Try.func3, Try.ntmps3
    go_wp2_with fail
    go_ret
    exact ⟨rfl, (unhide H0).2⟩
  · have za : (s.size : Int) ≤ 20000 := by omega
    have C1 := hide (fun W => key_any o s W (by omega))
    have C2 := hide (fun W => rkey_any o s W (by omega))
    unfold ov at C1 C2 ⊢
    generalize Ln.bt (key o s.data.toList) = x at *
    have K1 : Hid (∀ W, P7 w o W → Calls Try.prog 4 #[.agg #[.bool o.num, .bool o.fold, .bool o.bls, .bool o.rev, .int .i64 o.fr, .int .i64 o.«to», .int .u8 (o.sep.toNat : Int)], .string s] W fun e w' => e = .returned (.string x) ∧ P7 w o w') := fun W h => (unhide C1 W).mono fun e w' q => ⟨q.1, P7.of (h.held.step q.2)⟩
    have K2 : Hid (∀ W, P7 w o W → Calls Try.prog 5 #[.agg #[.bool o.num, .bool o.fold, .bool o.bls, .bool o.rev, .int .i64 o.fr, .int .i64 o.«to», .int .u8 (o.sep.toNat : Int)], .string s] W fun e w' => e = .returned (.string x) ∧ P7 w o w') := fun W h => (unhide C2 W).mono fun e w' q => ⟨q.1, P7.of (h.held.step q.2)⟩
    obtain ⟨w0, hw0⟩ : ∃ w0, w0 = w.alloc (.cells #[.bool o.num, .bool o.fold, .bool o.bls, .bool o.rev, .int .i64 o.fr, .int .i64 o.«to», .int .u8 (o.sep.toNat : Int)] 23) := ⟨_, rfl⟩
    rw [← hw0] at H0
    have hS := P7.of (unhide H0)
    have hSd : P7 w o w0.drew := P7.of ⟨(unhide H0).1, (unhide H0).2.drew⟩
    unfold P7 at hS hSd K1 K2
    clear C1 C2 H0
    have HW0 := hide hw0
    clear hw0
    go_enter Try.func3, Try.ntmps3
    go_upto_region 3 with fail
    rw [← unhide HW0]
    clear HW0
    go_region_held3 (fun w' => w'.cell? ⟨w.heap.size, 0, none⟩ = some (.bool o.num) ∧ w'.cell? ⟨w.heap.size, 1, none⟩ = some (.bool o.fold) ∧ w'.cell? ⟨w.heap.size, 2, none⟩ = some (.bool o.bls) ∧ w'.cell? ⟨w.heap.size, 3, none⟩ = some (.bool o.rev) ∧ w'.cell? ⟨w.heap.size, 4, none⟩ = some (.int .i64 o.fr) ∧ w'.cell? ⟨w.heap.size, 5, none⟩ = some (.int .i64 o.«to») ∧ w'.cell? ⟨w.heap.size, 6, none⟩ = some (.int .u8 (o.sep.toNat : Int)) ∧ Hid (HeldP w o w')) (first | assumption | go_keep)
      (first | (with_reducible refine (unhide K1 _ (by assumption)).mono ?_; rintro e w' ⟨rfl, hS1⟩) | (with_reducible refine (unhide K2 _ (by assumption)).mono ?_; rintro e w' ⟨rfl, hS2⟩))
    go_wp2_with fail
    go_ret
    exact ⟨by first | rfl | simp, (unhide hS2.2.2.2.2.2.2.2).2⟩
end Go.Proofs.Ytfffhdbicldihaa.Ky
