/- KeysCompares returns true, whatever the order and the two lines. -/
import Derived.Test.YtfffhdbicldihaaDoorKyRefComp
namespace Go.Proofs.YtfffhdbicldihaaDoor.Ky
open Go.RowKit Go.Shelf

attribute [local go_sem] Oper.semAt_some

set_option maxRecDepth 100000 in
set_option maxHeartbeats 1000000 in
theorem keysCompares_any (o : Ord) (a b : ByteArray) (w : World) :
    Calls Tryd.prog 3 #[ov o, .string a, .string b] w fun e w' => e = .returned (.bool true) ∧ Below w.heap.size w w' := by
  have H0 : Hid (Held w o (w.alloc (.cells #[.bool o.num, .bool o.fold, .bool o.bls, .bool o.rev, .int .i64 o.fr, .int .i64 o.«to», .int .u8 (o.sep.toNat : Int)] 23))) := ⟨OR.new w o, (Below.refl _ _).alloc (Nat.le_refl _) _⟩
  by_cases hbig : (20000 : Int) < a.size ∨ ((a.size : Int) ≤ 20000 ∧ (20000 : Int) < b.size)
  · unfold ov
    rcases hbig with h1 | ⟨h1, h2⟩
    all_goals
      go_enter Tryd.func3, Tryd.ntmps3
      go_wp2_with fail
      go_ret
      exact ⟨rfl, (unhide H0).2⟩
  · have za : (a.size : Int) ≤ 20000 := by omega
    have zb : (b.size : Int) ≤ 20000 := by omega
    have C1 := hide (fun W => check_any o W)
    have C2 := hide (fun W => rcheck_any o W)
    have C3 := hide (fun W => comp_any o a b W (by omega) (by omega))
    have C4 := hide (fun W => rcompare_any o a b W (by omega) (by omega))
    unfold ov at C1 C2 C3 C4 ⊢
    generalize compare o a.data.toList b.data.toList = x at *
    obtain ⟨ok, hok⟩ : ∃ ok, ok = okO o := ⟨_, rfl⟩
    rw [← hok] at C1 C2
    clear hok hbig
    have K1 : Hid (∀ W, S7 w o o.num W → Calls Tryd.prog 8 #[.agg #[.bool o.num, .bool o.fold, .bool o.bls, .bool o.rev, .int .i64 o.fr, .int .i64 o.«to», .int .u8 (o.sep.toNat : Int)]] W fun e w' => e = .returned (.bool ok) ∧ S7 w o o.num w') := fun W h => (unhide C1 W).mono fun e w' q => ⟨q.1, S7.of rfl (h.held.step q.2)⟩
    have K2 : Hid (∀ W, S7 w o o.num W → Calls Tryd.prog 9 #[.agg #[.bool o.num, .bool o.fold, .bool o.bls, .bool o.rev, .int .i64 o.fr, .int .i64 o.«to», .int .u8 (o.sep.toNat : Int)]] W fun e w' => e = .returned (.bool ok) ∧ S7 w o o.num w') := fun W h => (unhide C2 W).mono fun e w' q => ⟨q.1, S7.of rfl (h.held.step q.2)⟩
    have K3 : Hid (∀ W, S7 w o o.num W → Calls Tryd.prog 10 #[.agg #[.bool o.num, .bool o.fold, .bool o.bls, .bool o.rev, .int .i64 o.fr, .int .i64 o.«to», .int .u8 (o.sep.toNat : Int)], .string a, .string b] W fun e w' => e = .returned (.int .i64 x) ∧ S7 w o o.num w') := fun W h => (unhide C3 W).mono fun e w' q => ⟨q.1, S7.of rfl (h.held.step q.2)⟩
    have K4 : Hid (∀ W, S7 w o o.num W → Calls Tryd.prog 11 #[.agg #[.bool o.num, .bool o.fold, .bool o.bls, .bool o.rev, .int .i64 o.fr, .int .i64 o.«to», .int .u8 (o.sep.toNat : Int)], .string a, .string b] W fun e w' => e = .returned (.int .i64 x) ∧ S7 w o o.num w') := fun W h => (unhide C4 W).mono fun e w' q => ⟨q.1, S7.of rfl (h.held.step q.2)⟩
    obtain ⟨w0, hw0⟩ : ∃ w0, w0 = w.alloc (.cells #[.bool o.num, .bool o.fold, .bool o.bls, .bool o.rev, .int .i64 o.fr, .int .i64 o.«to», .int .u8 (o.sep.toNat : Int)] 23) := ⟨_, rfl⟩
    rw [← hw0] at H0
    have hS := S7.of rfl (unhide H0)
    have hSd : S7 w o o.num w0.drew := S7.of rfl ⟨(unhide H0).1, (unhide H0).2.drew⟩
    unfold S7 at hS hSd K1 K2 K3 K4
    clear C1 C2 C3 C4 H0
    have HW0 := hide hw0
    clear hw0
    cases ok
    all_goals
      go_enter Tryd.func3, Tryd.ntmps3
      go_upto_region 3 with fail
      rw [← unhide HW0]
      clear HW0
      go_region_held3 (fun w' => w'.cell? ⟨w.heap.size, 0, none⟩ = some (.bool o.num) ∧ w'.cell? ⟨w.heap.size, 1, none⟩ = some (.bool o.fold) ∧ w'.cell? ⟨w.heap.size, 2, none⟩ = some (.bool o.bls) ∧ w'.cell? ⟨w.heap.size, 3, none⟩ = some (.bool o.rev) ∧ w'.cell? ⟨w.heap.size, 4, none⟩ = some (.int .i64 o.fr) ∧ w'.cell? ⟨w.heap.size, 5, none⟩ = some (.int .i64 o.«to») ∧ w'.cell? ⟨w.heap.size, 6, none⟩ = some (.int .u8 (o.sep.toNat : Int)) ∧ Hid (Held w o w')) (first | assumption | go_keep)
        (first | (with_reducible refine (unhide K1 _ (by assumption)).mono ?_; rintro e w' ⟨rfl, hS1⟩) | (with_reducible refine (unhide K2 _ (by assumption)).mono ?_; rintro e w' ⟨rfl, hS2⟩) | (with_reducible refine (unhide K3 _ (by assumption)).mono ?_; rintro e w' ⟨rfl, hS3⟩) | (with_reducible refine (unhide K4 _ (by assumption)).mono ?_; rintro e w' ⟨rfl, hS4⟩))
      go_wp2_with fail
      go_ret
      exact ⟨by first | rfl | simp, (unhide hS4.2.2.2.2.2.2.2).2⟩
end Go.Proofs.YtfffhdbicldihaaDoor.Ky
