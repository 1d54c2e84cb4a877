/- KeysWhole returns true, whatever the two numbers and how they are told. -/
import Derived.Test.YtfffhdbicldihaaDoorKyWhole
import Derived.Test.YtfffhdbicldihaaDoorKyAlive
import Derived.Deep.RegionHeld3
namespace Go.Proofs.YtfffhdbicldihaaDoor.Ky
open Go.RowKit Go.Shelf

attribute [local go_sem] Oper.semAt_some

/-- a row that the call laid, and nothing before it touched -/
def Kr (w : World) (row : Array Value) (t : TypeId) (W : World) : Prop := W.heap[w.heap.size]? = some (.cells row t (0, 0)) ∧ Below w.heap.size w W
theorem Kr.step {w W W' : World} {row : Array Value} {t : TypeId} (h : Kr w row t W) (b : Below W.heap.size W W') : Kr w row t W' :=
  ⟨(b.block _ (Array.getElem?_eq_some_iff.1 h.1).1).trans h.1, h.2.trans (b.mono h.2.size)⟩
theorem Kr.new (w : World) (row : Array Value) (t : TypeId) : Kr w row t (w.alloc (.cells row t)) := ⟨heap_alloc_new w _, (Below.refl _ _).alloc (Nat.le_refl _) _⟩
theorem Kr.cell {w W : World} {row : Array Value} {t : TypeId} (h : Kr w row t W) (i : Nat) : W.cell? ⟨w.heap.size, i, none⟩ = row[i]? := cell_of_row _ _ _ _ _ _ h.1
theorem Kr.drew {w W : World} {row : Array Value} {t : TypeId} (h : Kr w row t W) : Kr w row t W.drew := ⟨h.1, h.2.drew⟩
/-- the end that is asked -/
def fixE (e : Int) : Int := if e % 6 = 4 then 0 else e
def fixD (x : Drs) : Drs := { x with en := if x.en.toNat % 6 = 4 then 0 else x.en }
theorem fix_en (x : Drs) : ((fixD x).en.toNat : Int) = fixE (x.en.toNat : Int) ∧ (fixD x).en.toNat % 6 ≠ 4 := by
  unfold fixD fixE
  by_cases h : x.en.toNat % 6 = 4
  · have h2 : (x.en.toNat : Int) % 6 = 4 := by omega
    simp [h, h2]
  · have h2 : ¬ (x.en.toNat : Int) % 6 = 4 := by omega
    simp [h, h2]

set_option maxRecDepth 100000 in
set_option maxHeartbeats 1000000 in
theorem keysWhole_any (n m : Int) (x y : Drs) (w : World) (hn : -2147483648 ≤ n ∧ n ≤ 2147483647) (hm : -2147483648 ≤ m ∧ m ≤ 2147483647) :
    Calls Tryd.prog 7 #[.int .i32 n, .int .i32 m, .agg #[.int .u8 (x.ah.toNat : Int), .int .u8 (x.bh.toNat : Int), .int .u8 (x.bk.toNat : Int), .int .u8 (x.en.toNat : Int), .bool x.pt, .int .u8 (y.ah.toNat : Int), .int .u8 (y.bh.toNat : Int), .int .u8 (y.bk.toNat : Int), .int .u8 (y.en.toNat : Int), .bool y.pt]] w fun e w' => e = .returned (.bool true) ∧ Below w.heap.size w w' := by
  obtain ⟨ex, hx4⟩ := fix_en x
  obtain ⟨ey, hy4⟩ := fix_en y
  have T1 := hide (fun W => told_any n (fixD x) W hn)
  have T2 := hide (fun W => told_any m (fixD y) W hm)
  have z1 := told_len n (fixD x) hn
  have z2 := told_len m (fixD y) hm
  have NB := hide (fun W => number_any (Ln.bt (told n (fixD x))) (Ln.bt (told m (fixD y))) W (Nat.le_trans z1 (by decide)) (Nat.le_trans z2 (by decide)))
  have hnum : number (Ln.bt (told n (fixD x))).data.toList (Ln.bt (told m (fixD y))).data.toList = cmpI n m := number_told n m (fixD x) (fixD y) hx4 hy4
  rw [hnum] at NB
  unfold dv at T1 T2
  rw [ex] at T1
  rw [ey] at T2
  have f1 : (fixD x).ah = x.ah ∧ (fixD x).bh = x.bh ∧ (fixD x).bk = x.bk ∧ (fixD x).pt = x.pt := ⟨rfl, rfl, rfl, rfl⟩
  have f2 : (fixD y).ah = y.ah ∧ (fixD y).bh = y.bh ∧ (fixD y).bk = y.bk ∧ (fixD y).pt = y.pt := ⟨rfl, rfl, rfl, rfl⟩
  rw [f1.1, f1.2.1, f1.2.2.1, f1.2.2.2] at T1
  rw [f2.1, f2.2.1, f2.2.2.1, f2.2.2.2] at T2
  have AL : Hid (∀ W, Calls Tryd.prog 15 #[] W fun e w' => e = .returned (.bool true) ∧ Below W.heap.size W w') := alive_any
  generalize Ln.bt (told n (fixD x)) = X at *
  generalize Ln.bt (told m (fixD y)) = Y at *
  have b4 : (x.en.toNat : Int) < 256 := by have := x.en.toNat_lt; omega
  have b5 : (y.en.toNat : Int) < 256 := by have := y.en.toNat_lt; omega
  have b6 : (0 : Int) ≤ (x.en.toNat : Int) := by omega
  have b7 : (0 : Int) ≤ (y.en.toNat : Int) := by omega
  generalize (x.ah.toNat : Int) = x0 at *
  generalize (x.bh.toNat : Int) = x1 at *
  generalize (x.bk.toNat : Int) = x2 at *
  generalize (x.en.toNat : Int) = x3 at *
  generalize x.pt = x4 at *
  generalize (y.ah.toNat : Int) = y0 at *
  generalize (y.bh.toNat : Int) = y1 at *
  generalize (y.bk.toNat : Int) = y2 at *
  generalize (y.en.toNat : Int) = y3 at *
  generalize y.pt = y4 at *
  clear hnum f1 f2 ex ey hx4 hy4 z1 z2
  obtain ⟨gx, hgx⟩ : ∃ g, g = fixE x3 := ⟨_, rfl⟩
  obtain ⟨gy, hgy⟩ : ∃ g, g = fixE y3 := ⟨_, rfl⟩
  rw [← hgx] at T1
  rw [← hgy] at T2
  have HGX := hide hgx
  have HGY := hide hgy
  clear hgx hgy
  go_enter Tryd.func7, Tryd.ntmps7
  go_upto_block 0 with fail
  go_cut [7] (fun _ wx => w.alloc (.cells #[.int .u8 x0, .int .u8 x1, .int .u8 x2, .int .u8 gx, .bool x4, .int .u8 y0, .int .u8 y1, .int .u8 y2, .int .u8 gy, .bool y4] 36) = wx ∧ True)
  case first =>
    have h1 := unhide HGX
    have h2 := unhide HGY
    clear HGX HGY T1 T2 NB AL
    have k1 : (x3 % 6 = 4 ∧ gx = 0) ∨ ((x3 % 6 == 4) = false ∧ gx = x3) := by
      unfold fixE at h1
      by_cases q : x3 % 6 = 4
      · left; rw [if_pos q] at h1; exact ⟨q, h1⟩
      · right; rw [if_neg q] at h1; exact ⟨by simpa using q, h1⟩
    have k2 : (y3 % 6 = 4 ∧ gy = 0) ∨ ((y3 % 6 == 4) = false ∧ gy = y3) := by
      unfold fixE at h2
      by_cases q : y3 % 6 = 4
      · left; rw [if_pos q] at h2; exact ⟨q, h2⟩
      · right; rw [if_neg q] at h2; exact ⟨by simpa using q, h2⟩
    clear h1 h2
    rcases k1 with ⟨k1, rfl⟩ | ⟨k1, rfl⟩ <;> rcases k2 with ⟨k2, rfl⟩ | ⟨k2, rfl⟩
    all_goals
      go_wp2_with fail
      refine wp_loop_rounds 3 ?_
      rw [rounds_succ]
      go_wp2_with fail
      rw [rounds_succ]
      go_wp2_with fail
      rw [rounds_succ]
      go_wp2_with fail
      go_meet
      exact ⟨rfl, trivial⟩
  case rest =>
    obtain ⟨rfl, -⟩ := hcut
    have H0 := Kr.new w #[.int .u8 x0, .int .u8 x1, .int .u8 x2, .int .u8 gx, .bool x4, .int .u8 y0, .int .u8 y1, .int .u8 y2, .int .u8 gy, .bool y4] 36
    have SS : Hid (∀ W, Kr w #[.int .u8 x0, .int .u8 x1, .int .u8 x2, .int .u8 gx, .bool x4, .int .u8 y0, .int .u8 y1, .int .u8 y2, .int .u8 gy, .bool y4] 36 W → W.cell? ⟨w.heap.size, 0, none⟩ = some (.int .u8 x0) ∧ W.cell? ⟨w.heap.size, 1, none⟩ = some (.int .u8 x1) ∧ W.cell? ⟨w.heap.size, 2, none⟩ = some (.int .u8 x2) ∧ W.cell? ⟨w.heap.size, 3, none⟩ = some (.int .u8 gx) ∧ W.cell? ⟨w.heap.size, 4, none⟩ = some (.bool x4) ∧ W.cell? ⟨w.heap.size, 5, none⟩ = some (.int .u8 y0) ∧ W.cell? ⟨w.heap.size, 6, none⟩ = some (.int .u8 y1) ∧ W.cell? ⟨w.heap.size, 7, none⟩ = some (.int .u8 y2) ∧ W.cell? ⟨w.heap.size, 8, none⟩ = some (.int .u8 gy) ∧ W.cell? ⟨w.heap.size, 9, none⟩ = some (.bool y4) ∧ Hid (Kr w #[.int .u8 x0, .int .u8 x1, .int .u8 x2, .int .u8 gx, .bool x4, .int .u8 y0, .int .u8 y1, .int .u8 y2, .int .u8 gy, .bool y4] 36 W)) := fun W h => ⟨h.cell 0, h.cell 1, h.cell 2, h.cell 3, h.cell 4, h.cell 5, h.cell 6, h.cell 7, h.cell 8, h.cell 9, h⟩
    obtain ⟨w0, hw0⟩ : ∃ w0, w0 = w.alloc (.cells #[.int .u8 x0, .int .u8 x1, .int .u8 x2, .int .u8 gx, .bool x4, .int .u8 y0, .int .u8 y1, .int .u8 y2, .int .u8 gy, .bool y4] 36) := ⟨_, rfl⟩
    rw [← hw0] at H0 ⊢
    have hS := unhide SS _ H0
    have hSd := unhide SS _ H0.drew
    have KA : Hid (∀ W, (W.cell? ⟨w.heap.size, 0, none⟩ = some (.int .u8 x0) ∧ W.cell? ⟨w.heap.size, 1, none⟩ = some (.int .u8 x1) ∧ W.cell? ⟨w.heap.size, 2, none⟩ = some (.int .u8 x2) ∧ W.cell? ⟨w.heap.size, 3, none⟩ = some (.int .u8 gx) ∧ W.cell? ⟨w.heap.size, 4, none⟩ = some (.bool x4) ∧ W.cell? ⟨w.heap.size, 5, none⟩ = some (.int .u8 y0) ∧ W.cell? ⟨w.heap.size, 6, none⟩ = some (.int .u8 y1) ∧ W.cell? ⟨w.heap.size, 7, none⟩ = some (.int .u8 y2) ∧ W.cell? ⟨w.heap.size, 8, none⟩ = some (.int .u8 gy) ∧ W.cell? ⟨w.heap.size, 9, none⟩ = some (.bool y4) ∧ Hid (Kr w #[.int .u8 x0, .int .u8 x1, .int .u8 x2, .int .u8 gx, .bool x4, .int .u8 y0, .int .u8 y1, .int .u8 y2, .int .u8 gy, .bool y4] 36 W)) → Calls Tryd.prog 15 #[] W fun e w' => e = .returned (.bool true) ∧ (w'.cell? ⟨w.heap.size, 0, none⟩ = some (.int .u8 x0) ∧ w'.cell? ⟨w.heap.size, 1, none⟩ = some (.int .u8 x1) ∧ w'.cell? ⟨w.heap.size, 2, none⟩ = some (.int .u8 x2) ∧ w'.cell? ⟨w.heap.size, 3, none⟩ = some (.int .u8 gx) ∧ w'.cell? ⟨w.heap.size, 4, none⟩ = some (.bool x4) ∧ w'.cell? ⟨w.heap.size, 5, none⟩ = some (.int .u8 y0) ∧ w'.cell? ⟨w.heap.size, 6, none⟩ = some (.int .u8 y1) ∧ w'.cell? ⟨w.heap.size, 7, none⟩ = some (.int .u8 y2) ∧ w'.cell? ⟨w.heap.size, 8, none⟩ = some (.int .u8 gy) ∧ w'.cell? ⟨w.heap.size, 9, none⟩ = some (.bool y4) ∧ Hid (Kr w #[.int .u8 x0, .int .u8 x1, .int .u8 x2, .int .u8 gx, .bool x4, .int .u8 y0, .int .u8 y1, .int .u8 y2, .int .u8 gy, .bool y4] 36 w'))) := fun W h => (unhide AL W).mono fun e w' q => ⟨q.1, unhide SS _ ((unhide h.2.2.2.2.2.2.2.2.2.2).step q.2)⟩
    have K1 : Hid (∀ W, (W.cell? ⟨w.heap.size, 0, none⟩ = some (.int .u8 x0) ∧ W.cell? ⟨w.heap.size, 1, none⟩ = some (.int .u8 x1) ∧ W.cell? ⟨w.heap.size, 2, none⟩ = some (.int .u8 x2) ∧ W.cell? ⟨w.heap.size, 3, none⟩ = some (.int .u8 gx) ∧ W.cell? ⟨w.heap.size, 4, none⟩ = some (.bool x4) ∧ W.cell? ⟨w.heap.size, 5, none⟩ = some (.int .u8 y0) ∧ W.cell? ⟨w.heap.size, 6, none⟩ = some (.int .u8 y1) ∧ W.cell? ⟨w.heap.size, 7, none⟩ = some (.int .u8 y2) ∧ W.cell? ⟨w.heap.size, 8, none⟩ = some (.int .u8 gy) ∧ W.cell? ⟨w.heap.size, 9, none⟩ = some (.bool y4) ∧ Hid (Kr w #[.int .u8 x0, .int .u8 x1, .int .u8 x2, .int .u8 gx, .bool x4, .int .u8 y0, .int .u8 y1, .int .u8 y2, .int .u8 gy, .bool y4] 36 W)) → Calls Tryd.prog 16 #[.int .i32 n, .agg #[.int .u8 x0, .int .u8 x1, .int .u8 x2, .int .u8 gx, .bool x4]] W fun e w' => e = .returned (.string X) ∧ (w'.cell? ⟨w.heap.size, 0, none⟩ = some (.int .u8 x0) ∧ w'.cell? ⟨w.heap.size, 1, none⟩ = some (.int .u8 x1) ∧ w'.cell? ⟨w.heap.size, 2, none⟩ = some (.int .u8 x2) ∧ w'.cell? ⟨w.heap.size, 3, none⟩ = some (.int .u8 gx) ∧ w'.cell? ⟨w.heap.size, 4, none⟩ = some (.bool x4) ∧ w'.cell? ⟨w.heap.size, 5, none⟩ = some (.int .u8 y0) ∧ w'.cell? ⟨w.heap.size, 6, none⟩ = some (.int .u8 y1) ∧ w'.cell? ⟨w.heap.size, 7, none⟩ = some (.int .u8 y2) ∧ w'.cell? ⟨w.heap.size, 8, none⟩ = some (.int .u8 gy) ∧ w'.cell? ⟨w.heap.size, 9, none⟩ = some (.bool y4) ∧ Hid (Kr w #[.int .u8 x0, .int .u8 x1, .int .u8 x2, .int .u8 gx, .bool x4, .int .u8 y0, .int .u8 y1, .int .u8 y2, .int .u8 gy, .bool y4] 36 w'))) := fun W h => (unhide T1 W).mono fun e w' q => ⟨q.1, unhide SS _ ((unhide h.2.2.2.2.2.2.2.2.2.2).step q.2)⟩
    have K2 : Hid (∀ W, (W.cell? ⟨w.heap.size, 0, none⟩ = some (.int .u8 x0) ∧ W.cell? ⟨w.heap.size, 1, none⟩ = some (.int .u8 x1) ∧ W.cell? ⟨w.heap.size, 2, none⟩ = some (.int .u8 x2) ∧ W.cell? ⟨w.heap.size, 3, none⟩ = some (.int .u8 gx) ∧ W.cell? ⟨w.heap.size, 4, none⟩ = some (.bool x4) ∧ W.cell? ⟨w.heap.size, 5, none⟩ = some (.int .u8 y0) ∧ W.cell? ⟨w.heap.size, 6, none⟩ = some (.int .u8 y1) ∧ W.cell? ⟨w.heap.size, 7, none⟩ = some (.int .u8 y2) ∧ W.cell? ⟨w.heap.size, 8, none⟩ = some (.int .u8 gy) ∧ W.cell? ⟨w.heap.size, 9, none⟩ = some (.bool y4) ∧ Hid (Kr w #[.int .u8 x0, .int .u8 x1, .int .u8 x2, .int .u8 gx, .bool x4, .int .u8 y0, .int .u8 y1, .int .u8 y2, .int .u8 gy, .bool y4] 36 W)) → Calls Tryd.prog 16 #[.int .i32 m, .agg #[.int .u8 y0, .int .u8 y1, .int .u8 y2, .int .u8 gy, .bool y4]] W fun e w' => e = .returned (.string Y) ∧ (w'.cell? ⟨w.heap.size, 0, none⟩ = some (.int .u8 x0) ∧ w'.cell? ⟨w.heap.size, 1, none⟩ = some (.int .u8 x1) ∧ w'.cell? ⟨w.heap.size, 2, none⟩ = some (.int .u8 x2) ∧ w'.cell? ⟨w.heap.size, 3, none⟩ = some (.int .u8 gx) ∧ w'.cell? ⟨w.heap.size, 4, none⟩ = some (.bool x4) ∧ w'.cell? ⟨w.heap.size, 5, none⟩ = some (.int .u8 y0) ∧ w'.cell? ⟨w.heap.size, 6, none⟩ = some (.int .u8 y1) ∧ w'.cell? ⟨w.heap.size, 7, none⟩ = some (.int .u8 y2) ∧ w'.cell? ⟨w.heap.size, 8, none⟩ = some (.int .u8 gy) ∧ w'.cell? ⟨w.heap.size, 9, none⟩ = some (.bool y4) ∧ Hid (Kr w #[.int .u8 x0, .int .u8 x1, .int .u8 x2, .int .u8 gx, .bool x4, .int .u8 y0, .int .u8 y1, .int .u8 y2, .int .u8 gy, .bool y4] 36 w'))) := fun W h => (unhide T2 W).mono fun e w' q => ⟨q.1, unhide SS _ ((unhide h.2.2.2.2.2.2.2.2.2.2).step q.2)⟩
    have K3 : Hid (∀ W, (W.cell? ⟨w.heap.size, 0, none⟩ = some (.int .u8 x0) ∧ W.cell? ⟨w.heap.size, 1, none⟩ = some (.int .u8 x1) ∧ W.cell? ⟨w.heap.size, 2, none⟩ = some (.int .u8 x2) ∧ W.cell? ⟨w.heap.size, 3, none⟩ = some (.int .u8 gx) ∧ W.cell? ⟨w.heap.size, 4, none⟩ = some (.bool x4) ∧ W.cell? ⟨w.heap.size, 5, none⟩ = some (.int .u8 y0) ∧ W.cell? ⟨w.heap.size, 6, none⟩ = some (.int .u8 y1) ∧ W.cell? ⟨w.heap.size, 7, none⟩ = some (.int .u8 y2) ∧ W.cell? ⟨w.heap.size, 8, none⟩ = some (.int .u8 gy) ∧ W.cell? ⟨w.heap.size, 9, none⟩ = some (.bool y4) ∧ Hid (Kr w #[.int .u8 x0, .int .u8 x1, .int .u8 x2, .int .u8 gx, .bool x4, .int .u8 y0, .int .u8 y1, .int .u8 y2, .int .u8 gy, .bool y4] 36 W)) → Calls Tryd.prog 13 #[.string X, .string Y] W fun e w' => e = .returned (.int .i64 (cmpI n m)) ∧ (w'.cell? ⟨w.heap.size, 0, none⟩ = some (.int .u8 x0) ∧ w'.cell? ⟨w.heap.size, 1, none⟩ = some (.int .u8 x1) ∧ w'.cell? ⟨w.heap.size, 2, none⟩ = some (.int .u8 x2) ∧ w'.cell? ⟨w.heap.size, 3, none⟩ = some (.int .u8 gx) ∧ w'.cell? ⟨w.heap.size, 4, none⟩ = some (.bool x4) ∧ w'.cell? ⟨w.heap.size, 5, none⟩ = some (.int .u8 y0) ∧ w'.cell? ⟨w.heap.size, 6, none⟩ = some (.int .u8 y1) ∧ w'.cell? ⟨w.heap.size, 7, none⟩ = some (.int .u8 y2) ∧ w'.cell? ⟨w.heap.size, 8, none⟩ = some (.int .u8 gy) ∧ w'.cell? ⟨w.heap.size, 9, none⟩ = some (.bool y4) ∧ Hid (Kr w #[.int .u8 x0, .int .u8 x1, .int .u8 x2, .int .u8 gx, .bool x4, .int .u8 y0, .int .u8 y1, .int .u8 y2, .int .u8 gy, .bool y4] 36 w'))) := fun W h => (unhide NB W).mono fun e w' q => ⟨q.1, unhide SS _ ((unhide h.2.2.2.2.2.2.2.2.2.2).step q.2)⟩
    obtain ⟨r, hr⟩ : ∃ r, r = cmpI n m := ⟨_, rfl⟩
    rw [← hr] at K3
    have hw : (n < m ∧ ¬ m < n ∧ r = -1) ∨ (m < n ∧ ¬ n < m ∧ r = 1) ∨ (¬ n < m ∧ ¬ m < n ∧ r = 0) := by
      unfold cmpI at hr
      by_cases q1 : n < m
      · left; rw [if_pos q1] at hr; exact ⟨q1, by omega, hr⟩
      · by_cases q2 : m < n
        · right; left; rw [if_neg q1, if_pos q2] at hr; exact ⟨q2, q1, hr⟩
        · right; right; rw [if_neg q1, if_neg q2] at hr; exact ⟨q1, q2, hr⟩
    clear hr SS AL T1 T2 NB H0 HGX HGY hw0
    rcases hw with ⟨q1, q2, rfl⟩ | ⟨q1, q2, rfl⟩ | ⟨q1, q2, rfl⟩
    all_goals
      go_upto_region 11 with fail
      go_region_held3 (fun w' => w'.cell? ⟨w.heap.size, 0, none⟩ = some (.int .u8 x0) ∧ w'.cell? ⟨w.heap.size, 1, none⟩ = some (.int .u8 x1) ∧ w'.cell? ⟨w.heap.size, 2, none⟩ = some (.int .u8 x2) ∧ w'.cell? ⟨w.heap.size, 3, none⟩ = some (.int .u8 gx) ∧ w'.cell? ⟨w.heap.size, 4, none⟩ = some (.bool x4) ∧ w'.cell? ⟨w.heap.size, 5, none⟩ = some (.int .u8 y0) ∧ w'.cell? ⟨w.heap.size, 6, none⟩ = some (.int .u8 y1) ∧ w'.cell? ⟨w.heap.size, 7, none⟩ = some (.int .u8 y2) ∧ w'.cell? ⟨w.heap.size, 8, none⟩ = some (.int .u8 gy) ∧ w'.cell? ⟨w.heap.size, 9, none⟩ = some (.bool y4) ∧ Hid (Kr w #[.int .u8 x0, .int .u8 x1, .int .u8 x2, .int .u8 gx, .bool x4, .int .u8 y0, .int .u8 y1, .int .u8 y2, .int .u8 gy, .bool y4] 36 w')) (first | assumption | go_keep)
        (first | (with_reducible refine (unhide KA _ (by assumption)).mono ?_; rintro e w' ⟨rfl, hS0⟩) | (with_reducible refine (unhide K1 _ (by assumption)).mono ?_; rintro e w' ⟨rfl, hS1⟩) | (with_reducible refine (unhide K2 _ (by assumption)).mono ?_; rintro e w' ⟨rfl, hS2⟩) | (with_reducible refine (unhide K3 _ (by assumption)).mono ?_; rintro e w' ⟨rfl, hS3⟩))
      go_wp2_with fail
      go_ret
      exact ⟨by first | rfl | simp, (unhide hS3.2.2.2.2.2.2.2.2.2.2).2⟩
end Go.Proofs.YtfffhdbicldihaaDoor.Ky
