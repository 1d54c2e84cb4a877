/- What told answers: a number with a sign, noughts and blanks around it. -/
import Derived.Test.YtfffhdbicldihaaDoorKyDigits
namespace Go.Proofs.YtfffhdbicldihaaDoor.Ky
open Go.RowKit Go.Shelf

attribute [local go_sem] Oper.semAt_some

/-- how a number is told -/
structure Drs where
  ah : UInt8
  bh : UInt8
  bk : UInt8
  en : UInt8
  pt : Bool
def dv (x : Drs) : Value := .agg #[.int .u8 (x.ah.toNat : Int), .int .u8 (x.bh.toNat : Int), .int .u8 (x.bk.toNat : Int), .int .u8 (x.en.toNat : Int), .bool x.pt]
def bks (k : Nat) : Bs := List.replicate k 32
theorem nl_succ (k : Nat) : nl (k + 1) = 48 :: nl k := rfl
theorem bks_succ (k : Nat) : bks (k + 1) = 32 :: bks k := rfl
theorem nl_snoc (k : Nat) : nl (k + 1) = nl k ++ [48] := List.replicate_succ'
theorem bt_cons (c : UInt8) (l : Bs) : ({ data := #[c] } : ByteArray) ++ Ln.bt l = Ln.bt (c :: l) := by
  have := bt_app [c] l
  exact this.symm
theorem bt_snoc (c : UInt8) (l : Bs) : Ln.bt l ++ ({ data := #[c] } : ByteArray) = Ln.bt (l ++ [c]) := (bt_app l [c]).symm
theorem bt_point (l : Bs) : Ln.bt l ++ ({ data := #[46] } : ByteArray) = Ln.bt (l ++ (46 :: nl 0)) := bt_snoc 46 l
def ends (k : Nat) : Bs := match k with | 0 => [] | 1 => [120] | 2 => [32, 57] | 3 => [45] | 4 => [46, 53, 46] | _ => [10]
def told (n : Int) (x : Drs) : Bs :=
  ((bks (x.bk.toNat % 5) ++ ((if n < 0 then [45] else []) ++ (nl (x.ah.toNat % 30) ++ dec n.natAbs))) ++ (if x.pt = true then 46 :: nl (x.bh.toNat % 30) else [])) ++ ends (x.en.toNat % 6)
theorem bt_len (l : Bs) : (Ln.bt l).size = l.length := rfl

set_option maxRecDepth 100000 in
set_option maxHeartbeats 1000000 in
theorem told_any (n : Int) (x : Drs) (w : World) (hn : -2147483648 ≤ n ∧ n ≤ 2147483647) :
    Calls Tryd.prog 16 #[.int .i32 n, dv x] w fun e w' => e = .returned (.string (Ln.bt (told n x))) ∧ Below w.heap.size w w' := by
  obtain ⟨D, hD⟩ : ∃ D, D = dec n.natAbs := ⟨_, rfl⟩
  have hDl : D.length ≤ 20 := by rw [hD]; exact dec_short 19 _ (by omega)
  obtain ⟨m1, hm1⟩ : ∃ m, m = x.ah.toNat % 30 := ⟨_, rfl⟩
  obtain ⟨m2, hm2⟩ : ∃ m, m = x.bh.toNat % 30 := ⟨_, rfl⟩
  obtain ⟨m3, hm3⟩ : ∃ m, m = x.bk.toNat % 5 := ⟨_, rfl⟩
  obtain ⟨m4, hm4⟩ : ∃ m, m = x.en.toNat % 6 := ⟨_, rfl⟩
  have hT : told n x = ((bks m3 ++ ((if n < 0 then [45] else []) ++ (nl m1 ++ D))) ++ (if x.pt = true then 46 :: nl m2 else [])) ++ ends m4 := by unfold told; rw [hm1, hm2, hm3, hm4, hD]
  have r1 : (x.ah.toNat : Int) % 30 = (m1 : Int) := by omega
  have r2 : (x.bh.toNat : Int) % 30 = (m2 : Int) := by omega
  have r3 : (x.bk.toNat : Int) % 5 = (m3 : Int) := by omega
  have r4 : (x.en.toNat : Int) % 6 = (m4 : Int) := by omega
  have q1 : m1 < 30 := by omega
  have q2 : m2 < 30 := by omega
  have q3 : m3 < 5 := by omega
  have q4 : m4 < 6 := by omega
  have u1 : x.ah.toNat < 256 := x.ah.toNat_lt
  have u2 : x.bh.toNat < 256 := x.bh.toNat_lt
  have u3 : x.bk.toNat < 256 := x.bk.toNat_lt
  have u4 : x.en.toNat < 256 := x.en.toNat_lt
  rw [hT]
  have DG : Hid (∀ W, Calls Tryd.prog 26 #[.int .u64 (n.natAbs : Int)] W fun e w' => e = .returned (.string (Ln.bt D)) ∧ w' = W) := fun W => by rw [hD]; exact digits_any n.natAbs W (by omega)
  unfold dv
  obtain ⟨xa, hxa⟩ : ∃ y, y = (x.ah.toNat : Int) := ⟨_, rfl⟩
  obtain ⟨xb, hxb⟩ : ∃ y, y = (x.bh.toNat : Int) := ⟨_, rfl⟩
  obtain ⟨xc, hxc⟩ : ∃ y, y = (x.bk.toNat : Int) := ⟨_, rfl⟩
  obtain ⟨xe, hxe⟩ : ∃ y, y = (x.en.toNat : Int) := ⟨_, rfl⟩
  rw [← hxa, ← hxb, ← hxc, ← hxe]
  rw [← hxa] at r1
  rw [← hxb] at r2
  rw [← hxc] at r3
  rw [← hxe] at r4
  have t1 : 0 ≤ xa ∧ xa < 256 := by omega
  have t2 : 0 ≤ xb ∧ xb < 256 := by omega
  have t3 : 0 ≤ xc ∧ xc < 256 := by omega
  have t4 : 0 ≤ xe ∧ xe < 256 := by omega
  clear hxa hxb hxc hxe u1 u2 u3 u4 hm1 hm2 hm3 hm4 hT hD
  obtain ⟨w0, hw0⟩ : ∃ w0, w0 = w.alloc (.cells #[.int .u8 xa, .int .u8 xb, .int .u8 xc, .int .u8 xe, .bool x.pt] 35) := ⟨_, rfl⟩
  have hrow : w0.heap[w.heap.size]? = some (.cells #[.int .u8 xa, .int .u8 xb, .int .u8 xc, .int .u8 xe, .bool x.pt] 35 (0, 0)) := by rw [hw0]; exact heap_alloc_new w _
  have c0 : w0.cell? ⟨w.heap.size, 0, none⟩ = some (.int .u8 xa) := cell_of_row _ _ 0 _ _ _ hrow
  have c1 : w0.cell? ⟨w.heap.size, 1, none⟩ = some (.int .u8 xb) := cell_of_row _ _ 1 _ _ _ hrow
  have c2 : w0.cell? ⟨w.heap.size, 2, none⟩ = some (.int .u8 xc) := cell_of_row _ _ 2 _ _ _ hrow
  have c3 : w0.cell? ⟨w.heap.size, 3, none⟩ = some (.int .u8 xe) := cell_of_row _ _ 3 _ _ _ hrow
  have c4 : w0.cell? ⟨w.heap.size, 4, none⟩ = some (.bool x.pt) := cell_of_row _ _ 4 _ _ _ hrow
  have hB0 : Hid (Below w.heap.size w w0) := by show Below _ _ _; rw [hw0]; exact (Below.refl _ _).alloc (Nat.le_refl _) _
  have hk0 : w.heap.size < w0.heap.size := by rw [hw0]; simp
  obtain ⟨A0, hA0⟩ : ∃ A, A = Ln.bt D := ⟨_, rfl⟩
  obtain ⟨A1, hA1⟩ : ∃ A, A = Ln.bt (nl m1 ++ D) := ⟨_, rfl⟩
  obtain ⟨E2, hE2⟩ : ∃ E : Bs, E = (if n < 0 then [45] else []) ++ (nl m1 ++ D) := ⟨_, rfl⟩
  obtain ⟨A2, hA2⟩ : ∃ A, A = Ln.bt E2 := ⟨_, rfl⟩
  obtain ⟨E3, hE3⟩ : ∃ E : Bs, E = bks m3 ++ E2 := ⟨_, rfl⟩
  obtain ⟨A3, hA3⟩ : ∃ A, A = Ln.bt E3 := ⟨_, rfl⟩
  obtain ⟨E4, hE4⟩ : ∃ E : Bs, E = E3 ++ (if x.pt = true then 46 :: nl m2 else []) := ⟨_, rfl⟩
  obtain ⟨A4, hA4⟩ : ∃ A, A = Ln.bt E4 := ⟨_, rfl⟩
  rw [← hE2, ← hE3, ← hE4]
  have hnl : ∀ k, (nl k).length = k := fun k => List.length_replicate
  have hbk : ∀ k, (bks k).length = k := fun k => List.length_replicate
  have s0 : A0.size ≤ 20 := by rw [hA0, bt_len]; exact hDl
  have s1 : A1.size ≤ 50 := by rw [hA1, bt_len, List.length_append, hnl]; omega
  have l2 : E2.length ≤ 51 := by rw [hE2, List.length_append, List.length_append, hnl]; split <;> simp <;> omega
  have s2 : A2.size ≤ 60 := by rw [hA2, bt_len]; omega
  have l3 : E3.length ≤ 56 := by rw [hE3, List.length_append, hbk]; omega
  have s3 : A3.size ≤ 70 := by rw [hA3, bt_len]; omega
  have l4 : E4.length ≤ 90 := by rw [hE4, List.length_append]; split <;> simp [hnl] <;> omega
  have s4 : A4.size ≤ 90 := by rw [hA4, bt_len]; omega
  have HA0 := hide hA0
  have HA1 := hide hA1
  have HA2 := hide hA2
  have HA3 : Hid (A3 = Ln.bt (bks m3 ++ E2)) := by show _ = _; rw [hA3, hE3]
  have HA3b := hide hA3
  have HA4 : Hid (x.pt = true → A4 = Ln.bt (E3 ++ (46 :: nl m2))) := fun h => by rw [hA4, hE4, if_pos h]
  have HA4n : Hid (x.pt = false → A4 = A3) := fun h => by rw [hA4, hE4, h, hA3]; simp
  have HS : Hid ((n < 0 → A2 = ({ data := #[45] } : ByteArray) ++ A1) ∧ (¬ n < 0 → A2 = A1)) := ⟨fun h => by rw [hA2, hE2, if_pos h, hA1, bt_cons]; rfl, fun h => by rw [hA2, hE2, if_neg h, hA1]; rfl⟩
  have HF : Hid (Ln.bt (E4 ++ ends m4) = A4 ++ Ln.bt (ends m4)) := by show _ = _; rw [hA4, bt_app]
  rw [unhide HF]
  rw [← hA0] at DG
  clear hA0 hA1 hA2 hA3 hA4 hE2 hE3 hE4 HF hnl hbk hDl l2 l3 l4 hrow
  obtain ⟨pt, hpt⟩ : ∃ p, p = x.pt := ⟨_, rfl⟩
  rw [← hpt] at c4 HA4 HA4n hw0 ⊢
  clear hpt
  go_enter Tryd.func16, Tryd.ntmps16
  go_upto_region 1 with fail
  rw [← hw0]
  clear hw0
  go_cut [5] (fun v wx => w0 = wx ∧ v = .string A0)
  case first =>
    by_cases hneg : n < 0
    · have e1 : (n.natAbs : Int) = -n := by omega
      rw [e1] at DG
      have e2 : n < -n := by omega
      clear e1
      go_wp2_with fail
      refine (unhide DG _).mono ?_
      rintro e w' ⟨rfl, hw⟩
      rw [hw]
      go_wp2_with fail
      go_meet
      exact ⟨rfl, rfl⟩
    · have e1 : (n.natAbs : Int) = n := by omega
      rw [e1] at DG
      have e2 : ¬ n < -n := by omega
      clear e1
      go_wp2_with fail
      refine (unhide DG _).mono ?_
      rintro e w' ⟨rfl, hw⟩
      rw [hw]
      go_wp2_with fail
      go_meet
      exact ⟨rfl, rfl⟩
  case rest =>
    obtain ⟨rfl, rfl⟩ := hcut
    clear DG
    go_upto_block 0 with fail
    go_cut [5, 6] (fun v _ wx => w0 = wx ∧ v = .string A1 ∧ True)
    case first =>
      go_wp2_with fail
      go_loopg [5, 6] m1 (fun g v5 v6 wr => w0 = wr ∧ ∃ (k : Nat) (X : ByteArray), k ≤ m1 ∧ g = m1 - k ∧ v6 = .int .i64 (k : Int) ∧ v5 = .string X ∧ X.size ≤ 20 + k ∧ Hid (X = Ln.bt (nl k ++ D)))
      case atStart => exact ⟨rfl, 0, A0, Nat.zero_le _, rfl, rfl, rfl, by omega, by show _ = _; rw [unhide HA0]; rfl⟩
      case round =>
        obtain ⟨rfl, k, X, hk, rfl, rfl, rfl, hX, hi⟩ := hrel
        by_cases hlt : k < m1
        · have hlt' : (k : Int) < (m1 : Int) := by omega
          have hi2 : Hid (({ data := #[48] } : ByteArray) ++ X = Ln.bt (nl (k + 1) ++ D)) := by
            show _ = _
            rw [unhide hi, nl_succ, List.cons_append, ← bt_cons]
          have hX2 : (({ data := #[48] } : ByteArray) ++ X).size ≤ 20 + (k + 1) := by rw [ByteArray.size_append]; have : ({ data := #[48] } : ByteArray).size = 1 := rfl; omega
          clear hi
          go_wp2_with fail
          go_roundg (m1 - (k + 1))
          case measure => omega
          case rel => exact ⟨rfl, k + 1, ({ data := #[48] } : ByteArray) ++ X, by omega, rfl, by go_num, rfl, hX2, hi2⟩
        · obtain rfl : k = m1 := by omega
          have hlt' : ¬ (k : Int) < (k : Int) := by omega
          clear hlt
          go_wp2_with fail
          go_meet
          exact ⟨rfl, by rw [unhide HA1, unhide hi], by trivial⟩
    case rest =>
      obtain ⟨rfl, rfl, -⟩ := hcut
      clear HA0 HA1
      go_upto_if 28 with fail
      go_cut [5] (fun v wx => w0 = wx ∧ v = .string A2)
      case first =>
        have hS := unhide HS
        clear HS
        by_cases hneg : n < 0
        · obtain rfl := hS.1 hneg
          clear hS
          go_wp2_with fail
          go_meet
          exact ⟨rfl, rfl⟩
        · obtain rfl := hS.2 hneg
          clear hS
          go_wp2_with fail
          go_meet
          exact ⟨rfl, rfl⟩
      case rest =>
        obtain ⟨rfl, rfl⟩ := hcut
        clear HS
        go_upto_block 2 with fail
        go_cut [5, 7] (fun v _ wx => w0 = wx ∧ v = .string A3 ∧ True)
        case first =>
          go_wp2_with fail
          go_loopg [5, 7] m3 (fun g v5 v6 wr => w0 = wr ∧ ∃ (k : Nat) (X : ByteArray), k ≤ m3 ∧ g = m3 - k ∧ v6 = .int .i64 (k : Int) ∧ v5 = .string X ∧ X.size ≤ 60 + k ∧ Hid (X = Ln.bt (bks k ++ E2)))
          case atStart => exact ⟨rfl, 0, A2, Nat.zero_le _, rfl, rfl, rfl, by omega, by show _ = _; rw [unhide HA2]; rfl⟩
          case round =>
            obtain ⟨rfl, k, X, hk, rfl, rfl, rfl, hX, hi⟩ := hrel
            by_cases hlt : k < m3
            · have hlt' : (k : Int) < (m3 : Int) := by omega
              have hi2 : Hid (({ data := #[32] } : ByteArray) ++ X = Ln.bt (bks (k + 1) ++ E2)) := by
                show _ = _
                rw [unhide hi, bks_succ, List.cons_append, ← bt_cons]
              have hX2 : (({ data := #[32] } : ByteArray) ++ X).size ≤ 60 + (k + 1) := by rw [ByteArray.size_append]; have : ({ data := #[32] } : ByteArray).size = 1 := rfl; omega
              clear hi
              go_wp2_with fail
              go_roundg (m3 - (k + 1))
              case measure => omega
              case rel => exact ⟨rfl, k + 1, ({ data := #[32] } : ByteArray) ++ X, by omega, rfl, by go_num, rfl, hX2, hi2⟩
            · obtain rfl : k = m3 := by omega
              have hlt' : ¬ (k : Int) < (k : Int) := by omega
              clear hlt
              go_wp2_with fail
              go_meet
              exact ⟨rfl, by rw [unhide HA3, unhide hi], by trivial⟩
        case rest =>
          obtain ⟨rfl, rfl, -⟩ := hcut
          clear HA2 HA3
          go_upto_if 42 with fail
          go_cut [5, 8] (fun v _ wx => w0 = wx ∧ v = .string A4 ∧ True)
          case first =>
            cases pt
            · obtain rfl := unhide HA4n rfl
              clear HA4 HA4n
              go_wp2_with fail
              go_meet
              exact ⟨rfl, rfl, trivial⟩
            · have s5 : (A3 ++ ({ data := #[46] } : ByteArray)).size ≤ 71 := by rw [ByteArray.size_append]; have : ({ data := #[46] } : ByteArray).size = 1 := rfl; omega
              go_wp2_with fail
              go_loopg [5, 8] m2 (fun g v5 v6 wr => w0 = wr ∧ ∃ (k : Nat) (X : ByteArray), k ≤ m2 ∧ g = m2 - k ∧ v6 = .int .i64 (k : Int) ∧ v5 = .string X ∧ X.size ≤ 80 + k ∧ Hid (X = Ln.bt (E3 ++ (46 :: nl k))))
              case atStart => exact ⟨rfl, 0, A3 ++ ({ data := #[46] } : ByteArray), Nat.zero_le _, rfl, rfl, rfl, by omega, by show _ = _; rw [unhide HA3b]; exact bt_point _⟩
              case round =>
                obtain ⟨rfl, k, X, hk, rfl, rfl, rfl, hX, hi⟩ := hrel
                by_cases hlt : k < m2
                · have hlt' : (k : Int) < (m2 : Int) := by omega
                  have hi2 : Hid (X ++ ({ data := #[48] } : ByteArray) = Ln.bt (E3 ++ (46 :: nl (k + 1)))) := by
                    show _ = _
                    rw [unhide hi, nl_snoc, bt_snoc]; simp
                  have hX2 : (X ++ ({ data := #[48] } : ByteArray)).size ≤ 80 + (k + 1) := by rw [ByteArray.size_append]; have : ({ data := #[48] } : ByteArray).size = 1 := rfl; omega
                  clear hi
                  go_wp2_with fail
                  go_roundg (m2 - (k + 1))
                  case measure => omega
                  case rel => exact ⟨rfl, k + 1, X ++ ({ data := #[48] } : ByteArray), by omega, rfl, by go_num, rfl, hX2, hi2⟩
                · obtain rfl : k = m2 := by omega
                  have hlt' : ¬ (k : Int) < (k : Int) := by omega
                  clear hlt
                  go_wp2_with fail
                  go_meet
                  exact ⟨rfl, by rw [unhide HA4 (by trivial), unhide hi], by trivial⟩
          case rest =>
            obtain ⟨rfl, rfl, -⟩ := hcut
            clear HA4 HA4n HA3b
            have hBB : Hid (∀ x : Obj, Below w.heap.size w (w0.alloc x)) := fun x => (unhide hB0).alloc (Nat.le_of_lt hk0) x
            have h6 : (m4 = 0 ∧ xe % 6 = 0) ∨ (m4 = 1 ∧ xe % 6 = 1) ∨ (m4 = 2 ∧ xe % 6 = 2) ∨ (m4 = 3 ∧ xe % 6 = 3) ∨ (m4 = 4 ∧ xe % 6 = 4) ∨ (m4 = 5 ∧ xe % 6 = 5) := by omega
            clear hB0 r4
            rcases h6 with ⟨rfl, r4⟩ | ⟨rfl, r4⟩ | ⟨rfl, r4⟩ | ⟨rfl, r4⟩ | ⟨rfl, r4⟩ | ⟨rfl, r4⟩
            all_goals
              go_wp2_with fail
              go_ret
              exact ⟨rfl, unhide hBB _⟩
end Go.Proofs.YtfffhdbicldihaaDoor.Ky
