/- KeysParted returns true, whatever the whole part and the digits behind the point. -/
import Derived.Test.YtfffhdbicldihabDoorKyParted
import Derived.Test.YtfffhdbicldihabDoorKyDigits
import Derived.Test.YtfffhdbicldihabDoorKyAlive
namespace Go.Proofs.YtfffhdbicldihabDoor.Ky
open Go.RowKit Go.Shelf

attribute [local go_sem] Oper.semAt_some

theorem pd_snoc (n : Nat) (l : Bs) (c : UInt8) : Ln.bt (pd n l) ++ Ln.bt [c] = Ln.bt (pd n (l ++ [c])) := by
  rw [← bt_app]; simp [pd]
theorem pd_len (n : Nat) (l : Bs) (h : n ≤ 65535) : (Ln.bt (pd n l)).size ≤ 6 + l.length ∧ (Ln.bt (pd n l)).size = (dec n).length + 1 + l.length := by
  have h1 : (dec n).length ≤ 5 := dec_short 4 n (by omega)
  have h2 : (Ln.bt (pd n l)).size = (dec n).length + (l.length + 1) := by show (dec n ++ 46 :: l).length = _; simp
  omega
theorem six_cell {W : World} {k : Nat} {t : TypeId} {a0 a1 a2 a3 a4 a5 : UInt8} (h : W.heap[k]? = some (.cells #[.int .u8 (a0.toNat : Int), .int .u8 (a1.toNat : Int), .int .u8 (a2.toNat : Int), .int .u8 (a3.toNat : Int), .int .u8 (a4.toNat : Int), .int .u8 (a5.toNat : Int)] t (0, 0))) (i : Nat) (x : UInt8) (hx : ([a0, a1, a2, a3, a4, a5] : Bs)[i]? = some x) : W.cell? ⟨k, i, none⟩ = some (.int .u8 (x.toNat : Int)) := by
  rw [cell_of_row _ _ i _ _ _ h]
  match i, hx with
  | 0, hx | 1, hx | 2, hx | 3, hx | 4, hx | 5, hx => simp at hx; subst hx; rfl

/-- what is left of the digits, noughts behind being struck one by one -/
def Left (n : Nat) (la : Bs) (q : Nat) (Z : ByteArray) : Prop := Z = Ln.bt (pd n ((ds la).take q)) ∧ behind ((ds la).take q) = behind (ds la)
theorem last_ways {n : Nat} {la : Bs} {q : Nat} {Z : ByteArray} (h : Left n la q Z) (hq : 0 < q) (hl : q ≤ la.length) :
    (0 : Int) < Z.size ∧ ∃ hz : Z.size - 1 < Z.size, (¬ (Z[Z.size - 1].toNat : Int) = 48) ∨ ((Z[Z.size - 1].toNat : Int) = 48 ∧ Left n la (q - 1) (Z.extract 0 (Z.size - 1))) := by
  obtain ⟨h1, h2⟩ := h
  have hq1 : q - 1 < la.length := by omega
  have e := ds_take la (q - 1) hq1
  rw [show q - 1 + 1 = q by omega] at e
  generalize hc : dig la[q - 1].toNat = c at e
  have eZ : Z.data.toList = pd n ((ds la).take (q - 1)) ++ [c] := by
    rw [h1, e]; show pd n _ = _; simp [pd]
  have sz : Z.size = (pd n ((ds la).take (q - 1))).length + 1 := by
    have := congrArg List.length eZ
    rw [List.length_append, List.length_singleton] at this
    exact this
  have hz : Z.size - 1 < Z.size := by omega
  have hlast : Z[Z.size - 1] = c := by
    have a1 : Z.data.toList[Z.size - 1]? = some Z[Z.size - 1] := List.getElem?_eq_getElem (l := Z.data.toList) (i := Z.size - 1) hz
    have a2 : Z.data.toList[Z.size - 1]? = some c := by
      rw [eZ, show Z.size - 1 = (pd n ((ds la).take (q - 1))).length by omega]
      simp
    exact Option.some.inj (a1.symm.trans a2)
  refine ⟨by omega, hz, ?_⟩
  rw [hlast]
  by_cases h48 : c = 48
  · right
    refine ⟨by rw [h48]; rfl, ?_, ?_⟩
    · rw [Ln.bt_extract, List.drop_zero, eZ, Nat.sub_zero, List.take_left' (by omega)]
    · rw [← h2, e, h48, behind_step]
  · left
    intro q2
    exact h48 (UInt8.toNat_inj.1 (by rw [show (48 : UInt8).toNat = 48 from rfl]; omega))
/-- both lists of digits lie there, and nothing before is touched -/
def Jd (w : World) (la lb : Bs) (W : World) : Prop :=
  (∀ i x, la[i]? = some x → W.cell? ⟨w.heap.size, i, none⟩ = some (.int .u8 (x.toNat : Int))) ∧ (∀ i x, lb[i]? = some x → W.cell? ⟨w.heap.size + 1, i, none⟩ = some (.int .u8 (x.toNat : Int))) ∧ Below w.heap.size w W
theorem Jd.drew {w W : World} {la lb : Bs} (h : Jd w la lb W) : Jd w la lb W.drew := ⟨h.1, h.2.1, h.2.2.drew⟩
/-- what the loop has made -/
def Made (n : Nat) (la lb : Bs) (k : Nat) (X Y : ByteArray) (v : Int) : Prop :=
  X = Ln.bt (pd n ((ds la).take k)) ∧ Y = Ln.bt (pd n ((ds lb).take k)) ∧ v = cmpL ((ds la).take k) ((ds lb).take k)
theorem Made.next {n : Nat} {la lb : Bs} {k : Nat} {X Y : ByteArray} {v : Int} (h : Made n la lb k X Y v) (ha : k < la.length) (hb : k < lb.length) :
    Made n la lb (k + 1) (X ++ Ln.bt [dig la[k].toNat]) (Y ++ Ln.bt [dig lb[k].toNat]) (if v = 0 then cmpI (la[k].toNat % 10 : Nat) (lb[k].toNat % 10 : Nat) else v) := by
  refine ⟨by rw [h.1, pd_snoc, ds_take la k ha], by rw [h.2.1, pd_snoc, ds_take lb k hb], ?_⟩
  rw [ds_take la k ha, ds_take lb k hb, cmpL_snoc _ _ _ _ (by rw [List.length_take, List.length_take, ds_len, ds_len]; omega), cmp_dig, ← h.2.2]

set_option maxRecDepth 100000 in
set_option maxHeartbeats 1000000 in
theorem keysParted_any (n : Nat) (a0 a1 a2 a3 a4 a5 b0 b1 b2 b3 b4 b5 : UInt8) (w : World) (hn : n ≤ 65535) :
    Calls Tryd.prog 3 #[.int .u16 (n : Int), .agg #[.int .u8 (a0.toNat : Int), .int .u8 (a1.toNat : Int), .int .u8 (a2.toNat : Int), .int .u8 (a3.toNat : Int), .int .u8 (a4.toNat : Int), .int .u8 (a5.toNat : Int)], .agg #[.int .u8 (b0.toNat : Int), .int .u8 (b1.toNat : Int), .int .u8 (b2.toNat : Int), .int .u8 (b3.toNat : Int), .int .u8 (b4.toNat : Int), .int .u8 (b5.toNat : Int)]] w fun e w' => e = .returned (.bool true) ∧ Below w.heap.size w w' := by
  have AL : Hid (∀ W, Calls Tryd.prog 7 #[] W fun e w' => e = .returned (.bool true) ∧ Below W.heap.size W w') := alive_any
  have DG := hide (fun W => digits_any n W (by omega))
  obtain ⟨la, hla⟩ : ∃ l : Bs, l = [a0, a1, a2, a3, a4, a5] := ⟨_, rfl⟩
  obtain ⟨lb, hlb⟩ : ∃ l : Bs, l = [b0, b1, b2, b3, b4, b5] := ⟨_, rfl⟩
  have na : la.length = 6 := by rw [hla]; rfl
  have nb : lb.length = 6 := by rw [hlb]; rfl
  obtain ⟨w0, hw0⟩ : ∃ w0, w0 = (w.alloc (.cells #[.int .u8 (a0.toNat : Int), .int .u8 (a1.toNat : Int), .int .u8 (a2.toNat : Int), .int .u8 (a3.toNat : Int), .int .u8 (a4.toNat : Int), .int .u8 (a5.toNat : Int)] 23)).alloc (.cells #[.int .u8 (b0.toNat : Int), .int .u8 (b1.toNat : Int), .int .u8 (b2.toNat : Int), .int .u8 (b3.toNat : Int), .int .u8 (b4.toNat : Int), .int .u8 (b5.toNat : Int)] 23) := ⟨_, rfl⟩
  have rA : w0.heap[w.heap.size]? = some (.cells #[.int .u8 (a0.toNat : Int), .int .u8 (a1.toNat : Int), .int .u8 (a2.toNat : Int), .int .u8 (a3.toNat : Int), .int .u8 (a4.toNat : Int), .int .u8 (a5.toNat : Int)] 23 (0, 0)) := by rw [hw0]; exact (Below.heap_alloc _ _ _ (by simp)).trans (heap_alloc_new w _)
  have rB : w0.heap[w.heap.size + 1]? = some (.cells #[.int .u8 (b0.toNat : Int), .int .u8 (b1.toNat : Int), .int .u8 (b2.toNat : Int), .int .u8 (b3.toNat : Int), .int .u8 (b4.toNat : Int), .int .u8 (b5.toNat : Int)] 23 (0, 0)) := by
    have := heap_alloc_new (w.alloc (.cells #[.int .u8 (a0.toNat : Int), .int .u8 (a1.toNat : Int), .int .u8 (a2.toNat : Int), .int .u8 (a3.toNat : Int), .int .u8 (a4.toNat : Int), .int .u8 (a5.toNat : Int)] 23)) (.cells #[.int .u8 (b0.toNat : Int), .int .u8 (b1.toNat : Int), .int .u8 (b2.toNat : Int), .int .u8 (b3.toNat : Int), .int .u8 (b4.toNat : Int), .int .u8 (b5.toNat : Int)] 23)
    rw [World.size_alloc] at this
    rw [hw0]; exact this
  have CA : Hid (∀ i x, la[i]? = some x → w0.cell? ⟨w.heap.size, i, none⟩ = some (.int .u8 (x.toNat : Int))) := fun i x hx => six_cell rA i x (by rw [hla] at hx; exact hx)
  have CB : Hid (∀ i x, lb[i]? = some x → w0.cell? ⟨w.heap.size + 1, i, none⟩ = some (.int .u8 (x.toNat : Int))) := fun i x hx => six_cell rB i x (by rw [hlb] at hx; exact hx)
  have hB0 : Hid (Below w.heap.size w w0) := by show Below _ _ _; rw [hw0]; exact ((Below.refl _ _).alloc (Nat.le_refl _) _).alloc (by simp) _
  have e0 : Ln.bt (dec n) ++ ({ data := #[46] } : ByteArray) = Ln.bt (pd n []) := (bt_app (dec n) [46]).symm
  have z0 : (Ln.bt (dec n)).size ≤ 5 := dec_short 4 n (by omega)
  have E0 := hide e0
  obtain ⟨D, hD⟩ : ∃ D, D = Ln.bt (dec n) := ⟨_, rfl⟩
  rw [← hD] at DG E0 z0
  have zD : (D ++ ({ data := #[46] } : ByteArray)).size ≤ 6 := by rw [ByteArray.size_append]; have : ({ data := #[46] } : ByteArray).size = 1 := rfl; omega
  have HLA := hide na
  have HLB := hide nb
  clear hla hlb rA rB e0 hD na nb
  go_enter Tryd.func3, Tryd.ntmps3
  go_upto_region 1 with fail
  rw [← hw0]
  clear hw0
  go_wp2_with fail
  refine (unhide DG _).mono ?_
  rintro e w' ⟨rfl, hw⟩
  rw [hw]
  clear hw DG
  go_upto_block 0 with fail
  have hJ0 : Hid (Jd w la lb w0) := ⟨unhide CA, unhide CB, unhide hB0⟩
  have hM0 : Hid (Made n la lb 0 (D ++ ({ data := #[46] } : ByteArray)) (D ++ ({ data := #[46] } : ByteArray)) 0) := ⟨unhide E0, unhide E0, rfl⟩
  clear CA CB hB0 E0 z0
  go_cut [7, 8, 9, 10, 11, 12] (fun v7 v8 v9 _ _ _ wx => ∃ (X Y : ByteArray) (v : Int), v7 = .string X ∧ v8 = .string Y ∧ v9 = .int .i64 v ∧ X.size ≤ 12 ∧ Y.size ≤ 12 ∧ Hid (Made n la lb 6 X Y v) ∧ Hid (Jd w la lb wx))
  case first =>
    go_wp2_with fail
    go_loopg [7, 8, 9, 10, 11, 12] 6 (fun g v7 v8 v9 v10 _ _ wr => ∃ (k : Nat) (X Y : ByteArray) (v : Int), k ≤ 6 ∧ g = 6 - k ∧ v10 = .int .i64 (k : Int) ∧ v7 = .string X ∧ v8 = .string Y ∧ v9 = .int .i64 v ∧ X.size ≤ 6 + k ∧ Y.size ≤ 6 + k ∧ Hid (Made n la lb k X Y v) ∧ Hid (Jd w la lb wr))
    case atStart => exact ⟨0, _, _, 0, by omega, rfl, rfl, rfl, rfl, rfl, zD, zD, hM0, hJ0⟩
    case round =>
      obtain ⟨k, X, Y, v, hk, rfl, rfl, rfl, rfl, rfl, hX, hY, hM, hJ⟩ := hrel
      clear hM0 hJ0
      by_cases hlt : k < 6
      · have hlt' : (k : Int) < 6 := by omega
        have ka : k < la.length := by have := unhide HLA; omega
        have kb : k < lb.length := by have := unhide HLB; omega
        have cA := (unhide hJ).1 k la[k] (List.getElem?_eq_getElem ka)
        have cB := (unhide hJ).2.1 k lb[k] (List.getElem?_eq_getElem kb)
        have hN := (unhide hM).next ka kb
        have hJ2 := hide (unhide hJ).drew
        have bp := la[k].toNat_lt
        have bq := lb[k].toNat_lt
        have r1 := (good_cmpL.rg ((ds la).take k) ((ds lb).take k))
        rw [← (unhide hM).2.2] at r1
        generalize la[k].toNat = p at *
        generalize lb[k].toNat = q at *
        obtain ⟨D1, hD1⟩ : ∃ D, D = Ln.bt [dig p] := ⟨_, rfl⟩
        obtain ⟨E1, hE1⟩ : ∃ D, D = Ln.bt [dig q] := ⟨_, rfl⟩
        rw [← hD1, ← hE1] at hN
        have s1 : D1.size = 1 := by rw [hD1]; rfl
        have s2 : E1.size = 1 := by rw [hE1]; rfl
        have sl1 : ∀ W, Sem.run Tryd.prog (Instr.slice 9 (.string { data := #[48, 49, 50, 51, 52, 53, 54, 55, 56, 57] }) (some (.int .u8 ((p : Int) % 10))) (some (.int .u8 ((p : Int) % 10 + 1))) none) W = .ok (.string D1) W := fun W => by rw [hD1]; exact slice_dig p _ (by omega) W
        have sl2 : ∀ W, Sem.run Tryd.prog (Instr.slice 9 (.string { data := #[48, 49, 50, 51, 52, 53, 54, 55, 56, 57] }) (some (.int .u8 ((q : Int) % 10))) (some (.int .u8 ((q : Int) % 10 + 1))) none) W = .ok (.string E1) W := fun W => by rw [hE1]; exact slice_dig q _ (by omega) W
        have hX2 : (X ++ D1).size ≤ 6 + (k + 1) := by rw [ByteArray.size_append]; omega
        have hY2 : (Y ++ E1).size ≤ 6 + (k + 1) := by rw [ByteArray.size_append]; omega
        have HN := hide hN
        clear hD1 hE1 hN hM hJ ka kb
        have hw : ∃ v2 : Int, Hid (Made n la lb (k + 1) (X ++ D1) (Y ++ E1) v2) ∧ ((((v == 0) = false) ∧ v2 = v) ∨ (v = 0 ∧ (((p : Int) % 10 == (q : Int) % 10) = false) ∧ (p : Int) % 10 < (q : Int) % 10 ∧ v2 = -1) ∨ (v = 0 ∧ (((p : Int) % 10 == (q : Int) % 10) = false) ∧ ¬ (p : Int) % 10 < (q : Int) % 10 ∧ v2 = 1) ∨ (v = 0 ∧ (((p : Int) % 10 == (q : Int) % 10) = true) ∧ v2 = 0)) := by
          refine ⟨_, HN, ?_⟩
          by_cases h0 : v = 0
          · right
            rw [if_pos h0]
            unfold cmpI
            by_cases h1 : (p : Int) % 10 < (q : Int) % 10
            · left
              exact ⟨h0, by simp; omega, h1, by rw [if_pos (by omega)]⟩
            · right
              by_cases h2 : (q : Int) % 10 < (p : Int) % 10
              · left
                exact ⟨h0, by simp; omega, h1, by rw [if_neg (by omega), if_pos (by omega)]⟩
              · right
                exact ⟨h0, by simp; omega, by rw [if_neg (by omega), if_neg (by omega)]⟩
          · left
            exact ⟨by simpa using h0, by rw [if_neg h0]⟩
        obtain ⟨v2, hM2, hw⟩ := hw
        have x1 : 0 ≤ (p : Int) % 10 := by omega
        have x2 : (p : Int) % 10 < 10 := by omega
        have y1 : 0 ≤ (q : Int) % 10 := by omega
        have y2 : (q : Int) % 10 < 10 := by omega
        clear HN r1
        go_wp2_with fail
        go_region
        clear cA cB
        rcases hw with ⟨h1, rfl⟩ | ⟨rfl, h1, h2, rfl⟩ | ⟨rfl, h1, h2, rfl⟩ | ⟨rfl, h1, rfl⟩
        all_goals
          go_wp2_with fail
          go_roundg (6 - (k + 1))
          case measure => omega
          case rel => exact ⟨k + 1, _, _, _, by omega, rfl, by go_num, rfl, rfl, rfl, hX2, hY2, hM2, hJ2⟩
      · obtain rfl : k = 6 := by omega
        clear hlt
        go_wp2_with fail
        go_meet
        exact ⟨X, Y, v, rfl, rfl, rfl, hX, hY, hM, hJ⟩
  case rest =>
    obtain ⟨X, Y, v, rfl, rfl, rfl, hX, hY, hM, hJ⟩ := hcut
    clear hM0 hJ0 zD
    have hL0 : Hid (Left n la 6 X) := ⟨(unhide hM).1, by rw [List.take_of_length_le (by rw [ds_len, unhide HLA]; exact Nat.le_refl _)]⟩
    have hvr : v = -1 ∨ v = 0 ∨ v = 1 := by rw [(unhide hM).2.2]; exact good_cmpL.rg _ _
    have HV := hide hvr
    clear hvr
    go_upto_block 2 with fail
    go_cut [7, 13] (fun v7 _ wx => wc = wx ∧ ∃ (Z : ByteArray) (q : Nat), v7 = .string Z ∧ Z.size ≤ 12 ∧ Hid (Left n la q Z))
    case first =>
      go_wp2_with fail
      go_loopg [7, 13] 6 (fun g v7 v13 wr => wc = wr ∧ ∃ (q : Nat) (Z : ByteArray) (i : Int), q ≤ 6 ∧ q = g ∧ v13 = .int .i64 i ∧ i = (q : Int) - 1 ∧ v7 = .string Z ∧ Z.size ≤ 12 ∧ Hid (Left n la q Z))
      case atStart => exact ⟨rfl, 6, X, 5, by omega, rfl, rfl, by omega, rfl, hX, hL0⟩
      case round =>
        obtain ⟨rfl, q, Z, i, hq, rfl, rfl, hi, rfl, hZ, hL⟩ := hrel
        clear hL0
        by_cases h0 : 0 < q
        · obtain ⟨z1, z2, hw⟩ := last_ways (unhide hL) h0 (by have := unhide HLA; omega)
          have hi' : (0 : Int) ≤ i := by omega
          have hi'' : i ≤ 5 := by omega
          have z3 : (Z.size : Int) - 1 = ((Z.size - 1 : Nat) : Int) := by omega
          rcases hw with hw | ⟨hw, hL2⟩
          · clear hi h0
            go_wp2_with fail
            go_meet
            exact ⟨rfl, Z, q, rfl, hZ, hL⟩
          · have HL2 := hide hL2
            have z4 : (Z.extract 0 (Z.size - 1)).size ≤ 12 := by rw [ByteArray.size_extract]; omega
            have HI := hide hi
            clear hL hL2 hi
            go_wp2_with fail
            go_roundg (q - 1)
            case measure => omega
            case rel => exact ⟨rfl, q - 1, _, i - 1, by omega, rfl, by go_num, by have := unhide HI; omega, rfl, z4, HL2⟩
        · obtain rfl : q = 0 := by omega
          obtain rfl : i = -1 := by omega
          clear hi h0
          go_wp2_with fail
          go_meet
          exact ⟨rfl, Z, 0, rfl, hZ, hL⟩
    case rest =>
      obtain ⟨rfl, Z, q, rfl, hZ, hL⟩ := hcut
      have na := unhide HLA
      have nb := unhide HLB
      obtain ⟨m1, m2, m3⟩ := unhide hM
      obtain ⟨l1, l2⟩ := unhide hL
      have ta : (ds la).take 6 = ds la := List.take_of_length_le (by rw [ds_len, na]; exact Nat.le_refl _)
      have tb : (ds lb).take 6 = ds lb := List.take_of_length_le (by rw [ds_len, nb]; exact Nat.le_refl _)
      rw [tb] at m2
      rw [ta, tb] at m3
      clear ta tb
      obtain ⟨p1, p2⟩ := parted n la lb (by omega) q l2
      rw [← m3] at p1 p2
      have q1 : number Z.data.toList Y.data.toList = v := by rw [l1, m2]; exact p1
      have q2 : number (({ data := #[45] } : ByteArray) ++ Z).data.toList (({ data := #[45] } : ByteArray) ++ Y).data.toList = -v := by
        rw [l1, m2]
        have c1 : ∀ l : Bs, (({ data := #[45] } : ByteArray) ++ Ln.bt l).data.toList = 45 :: l := fun l => by
          have := bt_app [45] l
          rw [show ({ data := #[45] } : ByteArray) = Ln.bt [45] from rfl, ← this]; rfl
        rw [c1, c1]; exact p2
      have t1 : ({ data := #[45] } : ByteArray).size = 1 := rfl
      have N1 := hide (fun W => number_any Z Y W (by omega) (by omega))
      have N2 := hide (fun W => number_any (({ data := #[45] } : ByteArray) ++ Z) (({ data := #[45] } : ByteArray) ++ Y) W (by rw [ByteArray.size_append]; omega) (by rw [ByteArray.size_append]; omega))
      rw [q1] at N1
      rw [q2] at N2
      have B0 := hide (unhide hJ).2.2
      clear hL0 m1 m2 m3 l1 l2 p1 p2 q1 q2 t1 hM hL hJ na nb HLA HLB
      go_wp2_with fail
      refine (unhide AL _).mono ?_
      rintro e w1 ⟨rfl, b1⟩
      have B1 := hide ((unhide B0).trans (b1.mono (unhide B0).size))
      clear b1 B0 AL
      go_wp2_with fail
      refine (unhide N1 _).mono ?_
      rintro e w2 ⟨rfl, b2⟩
      have B2 := hide ((unhide B1).trans (b2.mono (unhide B1).size))
      clear b2 B1 N1
      have hv := unhide HV
      clear HV
      rcases hv with rfl | rfl | rfl
      all_goals
        go_wp2_with fail
        refine (unhide N2 _).mono ?_
        rintro e w3 ⟨rfl, b3⟩
        have B3 := hide ((unhide B2).trans (b3.mono (unhide B2).size))
        clear b3 B2 N2
        go_wp2_with fail
        go_ret
        exact ⟨by first | rfl | simp, unhide B3⟩
end Go.Proofs.YtfffhdbicldihabDoor.Ky
