/- What the document's alone answers. -/
import Derived.Test.YthmoinagfooncaaGreatDoorTrRZero
import Derived.Test.YthmoinagfooncaaGreatDoorTrRName
namespace Go.Proofs.YthmoinagfooncaaGreatDoor.Tr
open Go.RowKit Go.Proofs.YthmoinagfooncaaGreatDoor.Cu

/-- a node by itself, without what its list says -/
def aloneP (n : Nd) : Bool := hasOwnerP n && (if n.kind = 1 then decide (n.data.length ≤ 65536) && emptyB n.target && noListP n else if n.kind = 3 then decide (n.mode = 511) && targetP n.target && decide (n.data.length = 0) && noListP n else if n.kind = 2 then decide (n.data.length = 0) && emptyB n.target && decide (n.list.length ≤ 512) else false)
theorem kd_no {k c : UInt8} (h : ¬ k = c) : ¬ (k.toNat : Int) = (c.toNat : Int) := fun e => h (UInt8.toNat_inj.1 (by omega))
theorem owner_all {n : Nd} (h0 : 0 ≤ n.mode) (h1 : n.mode ≤ 511) (h2 : 0 ≤ n.user) (h3 : n.user ≤ 65535) (h4 : 0 ≤ n.group) (h5 : n.group ≤ 65535) (h6 : 0 ≤ n.time) (h7 : n.time ≤ 1099511627775) : hasOwnerP n = true := by
  simp [hasOwnerP, ownerP, timeP, h0, h1, h2, h3, h4, h5, h6, h7]
set_option maxRecDepth 100000 in
set_option maxHeartbeats 4000000 in
theorem ralone_any (n : Nd) (da : Option Addr) (dl dc : Nat) (la : Option Addr) (ll lc : Nat) (w : World) (hd : n.data.length = dl) (hl : n.list.length = ll) (hsz : n.target.size < 4611686018427387904) : Calls Tryz.prog 58 #[.agg (na n (.slice da dl dc) (.slice la ll lc))] w fun e w' => e = .returned (.bool (aloneP n)) ∧ Below w.heap.size w w' := by
  have HB1 : Hid (∀ o, Below w.heap.size w (w.alloc o)) := fun o => (Below.refl _ w).alloc (Nat.le_refl _) o
  have HP : Hid (aloneP n = (hasOwnerP n && (if n.kind = 1 then decide (dl ≤ 65536) && emptyB n.target && (decide (ll = 0) && decide (n.parent = 0)) else if n.kind = 3 then decide (n.mode = 511) && targetP n.target && decide (dl = 0) && (decide (ll = 0) && decide (n.parent = 0)) else if n.kind = 2 then decide (dl = 0) && emptyB n.target && decide (ll ≤ 512) else false))) := by rw [← hd, ← hl]; exact rfl
  have HO : Hid (∀ (x : Bool), hasOwnerP n = x → hasOwnerP n = x) := fun _ h => h
  obtain ⟨P, hPe⟩ : ∃ P, P = aloneP n := ⟨_, rfl⟩
  rw [← hPe] at HP ⊢
  clear hPe HO
  by_cases a0 : 0 ≤ n.mode
  case neg =>
    obtain rfl : P = false := by rw [unhide HP]; simp [hasOwnerP, ownerP, timeP, a0]
    clear HP
    obtain ⟨kd, md, us, gr, lk, ti, dt, tg, ls, pa⟩ := n
    unfold na
    simp only at *
    clear hd hl
    go_enter Tryz.func58, Tryz.ntmps58
    go_wp2
    go_ret
    exact ⟨rfl, unhide HB1 _⟩
  by_cases a1 : n.mode ≤ 511
  case neg =>
    obtain rfl : P = false := by rw [unhide HP]; simp [hasOwnerP, ownerP, timeP, a0, a1]
    clear HP
    obtain ⟨kd, md, us, gr, lk, ti, dt, tg, ls, pa⟩ := n
    unfold na
    simp only at *
    clear hd hl
    go_enter Tryz.func58, Tryz.ntmps58
    go_wp2
    go_ret
    exact ⟨rfl, unhide HB1 _⟩
  by_cases a2 : 0 ≤ n.user
  case neg =>
    obtain rfl : P = false := by rw [unhide HP]; simp [hasOwnerP, ownerP, timeP, a0, a1, a2]
    clear HP
    obtain ⟨kd, md, us, gr, lk, ti, dt, tg, ls, pa⟩ := n
    unfold na
    simp only at *
    clear hd hl
    go_enter Tryz.func58, Tryz.ntmps58
    go_wp2
    go_ret
    exact ⟨rfl, unhide HB1 _⟩
  by_cases a3 : n.user ≤ 65535
  case neg =>
    obtain rfl : P = false := by rw [unhide HP]; simp [hasOwnerP, ownerP, timeP, a0, a1, a2, a3]
    clear HP
    obtain ⟨kd, md, us, gr, lk, ti, dt, tg, ls, pa⟩ := n
    unfold na
    simp only at *
    clear hd hl
    go_enter Tryz.func58, Tryz.ntmps58
    go_wp2
    go_ret
    exact ⟨rfl, unhide HB1 _⟩
  by_cases a4 : 0 ≤ n.group
  case neg =>
    obtain rfl : P = false := by rw [unhide HP]; simp [hasOwnerP, ownerP, timeP, a0, a1, a2, a3, a4]
    clear HP
    obtain ⟨kd, md, us, gr, lk, ti, dt, tg, ls, pa⟩ := n
    unfold na
    simp only at *
    clear hd hl
    go_enter Tryz.func58, Tryz.ntmps58
    go_wp2
    go_ret
    exact ⟨rfl, unhide HB1 _⟩
  by_cases a5 : n.group ≤ 65535
  case neg =>
    obtain rfl : P = false := by rw [unhide HP]; simp [hasOwnerP, ownerP, timeP, a0, a1, a2, a3, a4, a5]
    clear HP
    obtain ⟨kd, md, us, gr, lk, ti, dt, tg, ls, pa⟩ := n
    unfold na
    simp only at *
    clear hd hl
    go_enter Tryz.func58, Tryz.ntmps58
    go_wp2
    go_ret
    exact ⟨rfl, unhide HB1 _⟩
  by_cases a6 : 0 ≤ n.time
  case neg =>
    obtain rfl : P = false := by rw [unhide HP]; simp [hasOwnerP, ownerP, timeP, a0, a1, a2, a3, a4, a5, a6]
    clear HP
    obtain ⟨kd, md, us, gr, lk, ti, dt, tg, ls, pa⟩ := n
    unfold na
    simp only at *
    clear hd hl
    go_enter Tryz.func58, Tryz.ntmps58
    go_wp2
    go_ret
    exact ⟨rfl, unhide HB1 _⟩
  by_cases a7 : n.time ≤ 1099511627775
  case neg =>
    obtain rfl : P = false := by rw [unhide HP]; simp [hasOwnerP, ownerP, timeP, a0, a1, a2, a3, a4, a5, a6, a7]
    clear HP
    obtain ⟨kd, md, us, gr, lk, ti, dt, tg, ls, pa⟩ := n
    unfold na
    simp only at *
    clear hd hl
    go_enter Tryz.func58, Tryz.ntmps58
    go_wp2
    go_ret
    exact ⟨rfl, unhide HB1 _⟩
  rw [owner_all a0 a1 a2 a3 a4 a5 a6 a7, Bool.true_and] at HP
  obtain ⟨kd, md, us, gr, lk, ti, dt, tg, ls, pa⟩ := n
  unfold na
  simp only at *
  clear hd hl
  by_cases k1 : kd = 1
  case pos =>
    rw [if_pos k1] at HP
    subst k1
    by_cases b0 : dl ≤ 65536
    case neg =>
      obtain rfl : P = false := by rw [unhide HP]; simp [b0]
      have b0' : ¬ (dl : Int) ≤ 65536 := by omega
      clear HP b0
      go_enter Tryz.func58, Tryz.ntmps58
      go_wp2
      go_ret
      exact ⟨rfl, unhide HB1 _⟩
    have b0d := b0
    have b0' : (dl : Int) ≤ 65536 := by omega
    by_cases b1 : tg.size = 0
    case neg =>
      obtain rfl : P = false := by rw [unhide HP, emptyB_no b1]; simp
      have b2 := empty_no b1
      clear HP b1 b0 b0d
      go_enter Tryz.func58, Tryz.ntmps58
      go_wp2
      go_ret
      exact ⟨rfl, unhide HB1 _⟩
    obtain rfl := empty_is b1
    by_cases b3 : ll = 0
    case neg =>
      obtain rfl : P = false := by rw [unhide HP]; simp [b3]
      have b4 : ¬ (ll : Int) = 0 := by omega
      clear HP b3 b0 b0d b1
      go_enter Tryz.func58, Tryz.ntmps58
      go_wp2
      go_ret
      exact ⟨rfl, unhide HB1 _⟩
    subst b3
    by_cases b5 : pa = 0
    case neg =>
      obtain rfl : P = false := by rw [unhide HP]; simp [b5]
      clear HP b0 b0d b1
      go_enter Tryz.func58, Tryz.ntmps58
      go_wp2
      go_ret
      exact ⟨by simp [b5], unhide HB1 _⟩
    subst b5
    obtain rfl : P = true := by rw [unhide HP]; simp [b0d]; rfl
    clear HP b0 b0d b1
    go_enter Tryz.func58, Tryz.ntmps58
    go_wp2
    go_ret
    exact ⟨rfl, unhide HB1 _⟩
  rw [if_neg k1] at HP
  have k1' : ¬ (kd.toNat : Int) = 1 := kd_no k1
  clear k1
  by_cases k3 : kd = 3
  case neg =>
    rw [if_neg k3] at HP
    have k3' : ¬ (kd.toNat : Int) = 3 := kd_no k3
    clear k3
    by_cases k2 : kd = 2
    case neg =>
      rw [if_neg k2] at HP
      have k2' : ¬ (kd.toNat : Int) = 2 := kd_no k2
      have hv := unhide HP
      subst hv
      clear k2 HP
      go_enter Tryz.func58, Tryz.ntmps58
      go_wp2
      go_ret
      exact ⟨rfl, unhide HB1 _⟩
    rw [if_pos k2] at HP
    subst k2
    clear k1' k3'
    by_cases b0 : dl = 0
    case neg =>
      obtain rfl : P = false := by rw [unhide HP]; simp [b0]
      have b0' : ¬ (dl : Int) = 0 := by omega
      clear HP b0
      go_enter Tryz.func58, Tryz.ntmps58
      go_wp2
      go_ret
      exact ⟨rfl, unhide HB1 _⟩
    subst b0
    by_cases b1 : tg.size = 0
    case neg =>
      obtain rfl : P = false := by rw [unhide HP, emptyB_no b1]; simp
      have b2 := empty_no b1
      clear HP b1
      go_enter Tryz.func58, Tryz.ntmps58
      go_wp2
      go_ret
      exact ⟨rfl, unhide HB1 _⟩
    obtain rfl := empty_is b1
    clear b1
    by_cases b3 : ll ≤ 512
    case neg =>
      obtain rfl : P = false := by rw [unhide HP]; simp [b3]
      have b4 : ¬ (ll : Int) ≤ 512 := by omega
      clear HP b3
      go_enter Tryz.func58, Tryz.ntmps58
      go_wp2
      go_ret
      exact ⟨rfl, unhide HB1 _⟩
    obtain rfl : P = true := by rw [unhide HP]; simp [b3]; rfl
    have b4 : (ll : Int) ≤ 512 := by omega
    clear HP b3
    go_enter Tryz.func58, Tryz.ntmps58
    go_wp2
    go_ret
    exact ⟨rfl, unhide HB1 _⟩
  rw [if_pos k3] at HP
  subst k3
  clear k1'
  obtain ⟨W, hWe⟩ : ∃ W, W = w.alloc (.cells #[.int .u8 3, .int .i64 md, .int .i64 us, .int .i64 gr, .int .i64 lk, .int .i64 ti, .slice da dl dc, .string tg, .slice la ll lc, .int .i64 pa] 48) := ⟨_, rfl⟩
  have HW : Hid (Below w.heap.size w W) := by rw [hWe]; exact unhide HB1 _
  have k1 : W.heap[w.heap.size]? = some (.cells #[.int .u8 3, .int .i64 md, .int .i64 us, .int .i64 gr, .int .i64 lk, .int .i64 ti, .slice da dl dc, .string tg, .slice la ll lc, .int .i64 pa] 48) := by rw [hWe]; exact heap_alloc_new w _
  have c0 : W.cell? ⟨w.heap.size, 0, none⟩ = some (.int .u8 3) := by rw [cell_of_row _ _ _ _ _ _ k1]; rfl
  have c1 : W.cell? ⟨w.heap.size, 1, none⟩ = some (.int .i64 md) := by rw [cell_of_row _ _ _ _ _ _ k1]; rfl
  have c6 : W.cell? ⟨w.heap.size, 6, none⟩ = some (.slice da dl dc) := by rw [cell_of_row _ _ _ _ _ _ k1]; rfl
  have c7 : W.cell? ⟨w.heap.size, 7, none⟩ = some (.string tg) := by rw [cell_of_row _ _ _ _ _ _ k1]; rfl
  have c8 : W.cell? ⟨w.heap.size, 8, none⟩ = some (.slice la ll lc) := by rw [cell_of_row _ _ _ _ _ _ k1]; rfl
  have c9 : W.cell? ⟨w.heap.size, 9, none⟩ = some (.int .i64 pa) := by rw [cell_of_row _ _ _ _ _ _ k1]; rfl
  clear k1 HB1
  go_enter Tryz.func58, Tryz.ntmps58
  go_wp2_with fail
  rw [← hWe]
  clear hWe
  go_loopw [3] (fun iv wr => ∃ k : Nat, k ≤ tg.size ∧ iv = .int .i64 k ∧ wr = W ∧ Hid (∀ j (hj : j < tg.size), j < k → tg[j] ≠ 0)) (fun iv _ => tg.size - (intOf iv).toNat)
  case atStart => exact ⟨0, Nat.zero_le _, rfl, rfl, fun j _ h => by omega⟩
  case round =>
    obtain ⟨k, hk, rfl, rfl, hno⟩ := hrel
    by_cases hlt : k < tg.size
    · have hlt' : (k : Int) < (tg.size : Int) := by omega
      by_cases e0 : tg[k] = 0
      · obtain rfl : P = false := by rw [unhide HP]; simp [targetP, hasB_at hlt e0]
        have e0' : (tg[k].toNat : Int) = 0 := by rw [e0]; rfl
        clear hno e0 HP
        go_wp2
        go_ret
        exact ⟨rfl, unhide HW⟩
      · have e0' : ¬ (tg[k].toNat : Int) = 0 := fun h => e0 (UInt8.toNat_inj.1 (by simpa using h))
        have hno2 : Hid (∀ j (hj : j < tg.size), j < k + 1 → tg[j] ≠ 0) := fun j hj hjk => by
          by_cases e : j = k
          · subst e; exact e0
          · exact unhide hno j hj (by omega)
        clear hno e0
        go_wp2
        go_roundw
        case rel => exact ⟨k + 1, by omega, by go_num, trivial, hno2⟩
        case measure => simp [intOf]; omega
    · obtain rfl : k = tg.size := by omega
      have n0 : hasB tg 0 = false := hasB_no fun j hj => unhide hno j hj hj
      have HT : Hid (targetP tg = (decide (1 ≤ tg.size) && decide (tg.size ≤ 1024))) := by
        show targetP tg = _
        simp [targetP, n0]
      rw [unhide HT] at HP
      clear n0 hno HT
      by_cases b0 : md = 511
      case neg =>
        obtain rfl : P = false := by rw [unhide HP]; simp [b0]
        clear HP
        go_wp2
        go_ret
        exact ⟨rfl, unhide HW⟩
      subst b0
      by_cases b1 : 1 ≤ tg.size
      case neg =>
        obtain rfl : P = false := by rw [unhide HP]; simp only [show decide (1 ≤ tg.size) = false from decide_eq_false b1]; simp
        have b1' : ¬ 1 ≤ (tg.size : Int) := by omega
        clear HP b1
        go_wp2
        go_ret
        exact ⟨rfl, unhide HW⟩
      have b1' : 1 ≤ (tg.size : Int) := by omega
      by_cases b2 : tg.size ≤ 1024
      case neg =>
        obtain rfl : P = false := by rw [unhide HP]; simp [b2]
        have b2' : ¬ (tg.size : Int) ≤ 1024 := by omega
        clear HP b1 b2
        go_wp2
        go_ret
        exact ⟨rfl, unhide HW⟩
      have b2' : (tg.size : Int) ≤ 1024 := by omega
      by_cases b3 : dl = 0
      case neg =>
        obtain rfl : P = false := by rw [unhide HP]; simp [b3]
        have b3' : ¬ (dl : Int) = 0 := by omega
        clear HP b1 b2 b3
        go_wp2
        go_ret
        exact ⟨rfl, unhide HW⟩
      subst b3
      by_cases b4 : ll = 0
      case neg =>
        obtain rfl : P = false := by rw [unhide HP]; simp [b4]
        have b4' : ¬ (ll : Int) = 0 := by omega
        clear HP b1 b2 b4
        go_wp2
        go_ret
        exact ⟨rfl, unhide HW⟩
      subst b4
      by_cases b5 : pa = 0
      case neg =>
        obtain rfl : P = false := by rw [unhide HP]; simp [b5]
        clear HP b1 b2
        go_wp2
        go_ret
        exact ⟨by simp [b5], unhide HW⟩
      subst b5
      obtain rfl : P = true := by rw [unhide HP]; simp [b1, b2]
      clear HP b1 b2
      go_wp2
      go_ret
      exact ⟨rfl, unhide HW⟩
end Go.Proofs.YthmoinagfooncaaGreatDoor.Tr
