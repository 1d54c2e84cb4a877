/- SortsUnique returns true, if Sort, Check and alive answer as they should. -/
import Derived.Test.YtjfjhpakkflceabGreatDoorSoSame
import Derived.Test.YtjfjhpakkflceabGreatDoorKyComp
import Derived.Deep.RegionHeld3
namespace Go.Proofs.YtjfjhpakkflceabGreatDoor.So
open Go.RowKit Go.Shelf Ky
open Pa (Tx tot)

attribute [local go_sem] Oper.semAt_some

theorem firsts_snoc (c : ByteArray → ByteArray → Int) (x : ByteArray) : ∀ (l seen : Ls), firsts c seen (l ++ [x]) = firsts c seen l ++ (if (seen ++ l).any (fun y => c y x == 0) = true then [] else [x])
  | [], seen => by
    by_cases h : seen.any (fun y => c y x == 0) = true
    · simp only [List.nil_append, List.append_nil, firsts]
    · simp only [List.nil_append, List.append_nil, firsts]
  | a :: l, seen => by
    have ih := firsts_snoc c x l (seen ++ [a])
    rw [List.append_assoc, List.singleton_append] at ih
    by_cases h : seen.any (fun y => c y a == 0) = true
    · simp only [List.cons_append, firsts]; rw [if_pos h, if_pos h, ih]
    · simp only [List.cons_append, firsts]; rw [if_neg h, if_neg h, ih, List.cons_append]
theorem take_snoc (A : Ls) (k : Nat) (h : k < A.length) : A.take (k + 1) = A.take k ++ [A.getD k ByteArray.empty] := by
  rw [List.take_succ_eq_append_getElem h]; simp [List.getD, List.getElem?_eq_getElem h]
/-- no line ahead of the k-th is alike -/
def freeTo (o : Ky.Ord) (A : Ls) (k : Nat) (x : ByteArray) : Bool := !(A.take k).any (fun y => cB o true y x == 0)
theorem free_zero (o : Ky.Ord) (A : Ls) (x : ByteArray) : freeTo o A 0 x = true := by simp [freeTo]
theorem free_next (o : Ky.Ord) (A : Ls) (k : Nat) (x : ByteArray) (h : k < A.length) : freeTo o A (k + 1) x = (freeTo o A k x && !(cB o true (A.getD k ByteArray.empty) x == 0)) := by
  unfold freeTo; rw [take_snoc A k h, List.any_append]; simp
def nfirst (o : Ky.Ord) (A : Ls) (k : Nat) : Nat := (firsts (cB o true) [] (A.take k)).length
theorem nfirst_zero (o : Ky.Ord) (A : Ls) : nfirst o A 0 = 0 := by simp [nfirst, firsts]
theorem nfirst_all (o : Ky.Ord) (A : Ls) : nfirst o A A.length = (sortL o true A).length := by
  unfold nfirst; rw [List.take_length, unique_many]
theorem nfirst_next (o : Ky.Ord) (A : Ls) (k : Nat) (h : k < A.length) : nfirst o A (k + 1) = nfirst o A k + (if freeTo o A k (A.getD k ByteArray.empty) = true then 1 else 0) := by
  unfold nfirst freeTo
  rw [take_snoc A k h, firsts_snoc, List.length_append, List.nil_append]
  cases (A.take k).any (fun y => cB o true y (A.getD k ByteArray.empty) == 0) <;> simp
theorem free_first (o : Ky.Ord) (A : Ls) (k : Nat) (h : k < A.length) (hf : freeTo o A k (A.getD k ByteArray.empty) = true) : A.getD k ByteArray.empty ∈ sortL o true A := by
  rw [unique_mem]
  unfold First
  obtain ⟨x, hx⟩ : ∃ x, x = A.getD k ByteArray.empty := ⟨_, rfl⟩
  have e : A = A.take k ++ x :: A.drop (k + 1) := by
    rw [hx]; conv => lhs; rw [← List.take_append_drop k A, List.drop_eq_getElem_cons h]
    simp [List.getD, List.getElem?_eq_getElem h]
  rw [← hx] at hf ⊢
  have h0 : (A.take k).filter (fun y => cB o true x y == 0) = [] := by
    rw [List.filter_eq_nil_iff]
    intro y hy hc
    unfold freeTo at hf
    simp only [Bool.not_eq_true', List.any_eq_false] at hf
    apply hf y hy
    have := (good_cB o true).tn x y
    simp only [beq_iff_eq] at hc ⊢
    omega
  rw [e, List.filter_append, h0, List.nil_append, List.filter_cons, if_pos (by simp [(good_cB o true).self])]
  rfl
theorem free_count (o : Ky.Ord) (A : Ls) (k : Nat) (h : k < A.length) (hf : freeTo o A k (A.getD k ByteArray.empty) = true) : cnt (sortL o true A) (A.getD k ByteArray.empty) = 1 :=
  nodup_count _ (strict_nodup (good_cB o true) (unique_strict o A)) (free_first o A k h hf)
theorem nfirst_le (o : Ky.Ord) (A : Ls) : ∀ k, k ≤ A.length → nfirst o A k ≤ k
  | 0, _ => by rw [nfirst_zero]; exact Nat.le_refl _
  | k + 1, h => by
    have i := nfirst_le o A k (by omega)
    rw [nfirst_next o A k (by omega)]
    split <;> omega

set_option maxRecDepth 100000 in
set_option maxHeartbeats 2000000 in
theorem sortsUnique_any (AL : AliveSays) (HS : SortSays) (HC : CheckSays) (o : Ky.Ord) (A : Ls) (a : Option Addr) (la ca : Nat) (w : World) (hT : Tx w a la ca A) (hl : la ≤ 4611686018427387904) (hca : ca ≤ 9223372036854775807) (hs : ∀ s ∈ A, s.size ≤ 4611686018427387904) :
    Calls Tryz.prog 3 #[ov o, .slice a la ca] w fun e w' => e = .returned (.bool true) ∧ Below w.heap.size w w' := by
  have AL1 := hide AL
  have CK := hide (fun W => check_any o W)
  unfold AliveSays at AL1
  unfold ov at CK ⊢
  have H0 : Hid (Hd w o (w.alloc (.cells #[.bool o.num, .bool o.fold, .bool o.bls, .bool o.rev, .int .i64 o.fr, .int .i64 o.«to», .int .u8 (o.sep.toNat : Int)] 23))) := Hd.new w o
  have HT := hide hT
  have FW : Hid (∀ W, Hd w o W → Calls Tryz.prog 7 #[.slice (some ⟨W.heap.size, 0, none⟩) 1 1] (W.alloc (.cells #[.slice a la ca] 24)) fun e w' => ∃ r : Bool, e = .returned (.bool r) ∧ (r = true → la ≤ 300 ∧ la + tot A ≤ 20000) ∧ Below (W.alloc (.cells #[.slice a la ca] 24)).heap.size (W.alloc (.cells #[.slice a la ca] 24)) w') := fun W h =>
    few_one A a la ca W.heap.size _ (by simp) ((hT.below h.2).below ((Below.refl _ W).alloc (Nat.le_refl _) _)) hl hs
  have hlen := hide hT.len
  clear hT
  go_enter Tryz.func3, Tryz.ntmps3
  go_wp2_with fail
  refine (unhide AL1 _).mono ?_
  rintro e w1 ⟨rfl, b1⟩
  have H1 := hide ((unhide H0).step b1)
  clear b1 H0
  go_wp2_with fail
  refine (unhide FW _ (unhide H1)).mono ?_
  rintro e w2 ⟨r, rfl, hr, b2⟩
  have H2 := hide (((unhide H1).step ((Below.refl _ w1).alloc (Nat.le_refl _) (.cells #[.slice a la ca] 24))).step b2)
  clear b2 H1 FW
  obtain ⟨d0, d1, d2, d3, d4, d5, d6⟩ := (unhide H2).1.cells
  cases r
  · clear hr
    go_wp2_with fail
    refine (unhide AL1 _).mono ?_
    rintro e w3 ⟨rfl, b3⟩
    have H3 := hide ((unhide H2).step b3)
    clear b3 H2
    go_wp2_with fail
    go_ret
    exact ⟨rfl, (unhide H3).2⟩
  · obtain ⟨hf1, hf2⟩ := hr rfl
    clear hr
    go_wp2_with fail
    refine (unhide CK _).mono ?_
    rintro e w3 ⟨rfl, b3⟩
    have H3 := hide ((unhide H2).step b3)
    clear b3 H2 d0 d1 d2 d3 d4 d5 d6
    cases hok : okO o
    · go_wp2_with fail
      refine (unhide AL1 _).mono ?_
      rintro e w4 ⟨rfl, b4⟩
      have H4 := hide ((unhide H3).step b4)
      clear b4 H3
      go_wp2_with fail
      go_ret
      exact ⟨rfl, (unhide H4).2⟩
    · have hAs : ∀ s ∈ A, s.size ≤ 1073741000 := fun s h => by have := tot_mem h; omega
      have hE : sortE o la = 0 := by unfold sortE; rw [hok, if_neg (by simp), if_neg (by omega)]
      have hE1 : sortE o A.length = 0 := by rw [unhide hlen]; exact hE
      obtain ⟨U, hU⟩ : ∃ U, U = sortL o true A := ⟨_, rfl⟩
      have hUl : U.length ≤ la := by rw [hU, ← unhide hlen]; exact sortL_le o true A
      have hA1 : sortA o true A = U := by unfold sortA; rw [hE1, if_pos rfl, hU]
      have hUs : ∀ s ∈ U, s.size ≤ 1073741000 := fun s h => hAs s (by
        rw [hU, unique_mem] at h
        unfold First at h
        exact (List.mem_filter.1 (List.mem_of_mem_head? (by rw [h]; rfl))).1)
      have hchk : checkL o true U = -1 := by rw [hU]; exact unique_checks o hok A
      have S1 : Hid (∀ W, Hd w o W → Calls Tryz.prog 9 #[.agg #[.bool o.num, .bool o.fold, .bool o.bls, .bool o.rev, .int .i64 o.fr, .int .i64 o.«to», .int .u8 (o.sep.toNat : Int)], .slice a la ca, .bool true] W fun e w' => ∃ x c, e = .returned (.tuple #[.slice x U.length c, .int .i64 0]) ∧ Tx w' x U.length c U ∧ Below W.heap.size W w') := fun W h =>
        (HS o true A a la ca W ((unhide HT).below h.2) hl hca (fun _ => hAs)).mono fun e w' q => by
          obtain ⟨v, h1, h2, h3⟩ := q
          rw [hA1] at h2
          obtain ⟨x, c, rfl, h4, h5⟩ := own_tx h2
          exact ⟨x, c, by rw [h1, hE], h4, h3⟩
      have CH : Hid (∀ W y cy, Tx W y U.length cy U → Calls Tryz.prog 10 #[.agg #[.bool o.num, .bool o.fold, .bool o.bls, .bool o.rev, .int .i64 o.fr, .int .i64 o.«to», .int .u8 (o.sep.toNat : Int)], .slice y U.length cy, .bool true] W fun e w' => e = .returned (.int .i64 (-1)) ∧ Below W.heap.size W w') := fun W y cy h => by rw [← hchk]; exact HC o true U y U.length cy W h (by omega) hUs
      have CM : Hid (∀ i, i < la → freeTo o A i (A.getD i ByteArray.empty) = true → ∀ W y cy, Tx W y U.length cy U → Calls Tryz.prog 12 #[.slice y U.length cy, .string (A.getD i ByteArray.empty)] W fun e w' => e = .returned (.int .i64 1) ∧ Below W.heap.size W w') := fun i hi hf W y cy h => by
        have q := count_any U (A.getD i ByteArray.empty) y U.length cy W h (by omega)
        have hc : cnt U (A.getD i ByteArray.empty) = 1 := by rw [hU]; exact free_count o A i (by rw [unhide hlen]; exact hi) hf
        rw [hc] at q
        exact q
      have CC : Hid (∀ i k, i < la → k < la → ∀ W, Calls Tryz.prog 11 #[.agg #[.bool o.num, .bool o.fold, .bool o.bls, .bool o.rev, .int .i64 o.fr, .int .i64 o.«to», .int .u8 (o.sep.toNat : Int)], .string (A.getD k ByteArray.empty), .string (A.getD i ByteArray.empty)] W fun e w' => e = .returned (.int .i64 (cB o true (A.getD k ByteArray.empty) (A.getD i ByteArray.empty))) ∧ Below W.heap.size W w') := fun i k hi hk W => comp_any o _ _ W (by have := hAs _ (mem_at (show k < A.length by rw [unhide hlen]; exact hk)); omega) (by have := hAs _ (mem_at (show i < A.length by rw [unhide hlen]; exact hi)); omega)
      have hend : Hid (nfirst o A la = U.length) := by show _ = _; rw [hU, ← unhide hlen]; exact nfirst_all o A
      obtain ⟨d0, d1, d2, d3, d4, d5, d6⟩ := (unhide H3).1.cells
      clear AL1 CK hE hE1 hU hA1 hUs hchk hok hAs AL HS HC
      go_wp2_with fail
      refine (unhide S1 _ (unhide H3)).mono ?_
      rintro e w4 ⟨x4, c4, rfl, t4, b4⟩
      have H4 := hide ((unhide H3).step b4)
      have T4 := hide t4
      clear b4 H3 S1 d0 d1 d2 d3 d4 d5 d6 t4
      obtain ⟨d0, d1, d2, d3, d4, d5, d6⟩ := (unhide H4).1.cells
      go_wp2_with fail
      refine (unhide CH _ _ _ (unhide T4)).mono ?_
      rintro e w5 ⟨rfl, b5⟩
      have H5 := hide ((unhide H4).step b5)
      have T5 := hide ((unhide T4).below b5)
      clear b5 H4 T4 CH d0 d1 d2 d3 d4 d5 d6
      go_wp2_with fail
      have TA5 := hide ((unhide HT).below (unhide H5).2)
      go_loopw [7, 8] (fun v7 v8 wr => ∃ i : Nat, i ≤ la ∧ v7 = .int .i64 (nfirst o A i : Nat) ∧ v8 = .int .i64 (i : Int) ∧ Hid (Hd w o wr) ∧ Hid (Below w5.heap.size w5 wr)) (fun _ v8 _ => la - (intOf v8).toNat)
      case atStart => exact ⟨0, Nat.zero_le _, by rw [nfirst_zero]; rfl, rfl, H5, Below.refl _ _⟩
      case round =>
        clear H5
        obtain ⟨i, hil, rfl, rfl, hH, hB⟩ := hrel
        by_cases hlt : i < la
        · have hlt' : (i : Int) < (la : Int) := by omega
          obtain ⟨g, off, ha0, hgl, ci⟩ := tx_at (unhide HT) hlt
          subst ha0
          have hnl := nfirst_le o A i (by rw [unhide hlen]; omega)
          have hnx := hide (nfirst_next o A i (by rw [unhide hlen]; exact hlt))
          have hfx := hide (fun k (h : k < la) => free_next o A k (A.getD i ByteArray.empty) (by rw [unhide hlen]; exact h))
          have hf0 := free_zero o A (A.getD i ByteArray.empty)
          have CMi := hide (unhide CM i hlt)
          have CCi := hide (fun k (h : k < la) => unhide CC i k hlt h)
          obtain ⟨y, hy⟩ : ∃ y, y = A.getD i ByteArray.empty := ⟨_, rfl⟩
          rw [← hy] at ci hnx hfx hf0 CMi CCi
          have CI := hide ci
          clear hy ci
          go_wp2_with fail
          go_loopw [9, 10] (fun v9 v10 wy => ∃ k : Nat, k ≤ i ∧ v9 = .bool (freeTo o A k y) ∧ v10 = .int .i64 (k : Int) ∧ Hid (Hd w o wy) ∧ Hid (Below w5.heap.size w5 wy)) (fun _ v10 _ => i - (intOf v10).toNat)
          case atStart => exact ⟨0, Nat.zero_le _, by rw [hf0], rfl, hH, hB⟩
          case round =>
            clear hH hB hf0
            obtain ⟨k, hki, rfl, rfl, hH, hB⟩ := hrel
            by_cases hk : k < i
            · have hk' : (k : Int) < (i : Int) := by omega
              have hkl : k < la := by omega
              have hst := unhide hfx k hkl
              cases hf : freeTo o A k y
              · rw [hf, Bool.false_and] at hst
                have hHd := hide (unhide hH).drew
                have hBd := hide (unhide hB).drew
                go_wp2_with fail
                go_region
                go_wp2_with fail
                go_roundw
                case rel => exact ⟨k + 1, by omega, by rw [hst], by go_num, hHd, hBd⟩
                case measure => simp [intOf]; omega
              · rw [hf, Bool.true_and] at hst
                obtain ⟨g2, o2, e2, _, ck⟩ := tx_at (unhide HT) hkl
                obtain ⟨rfl, rfl⟩ : g = g2 ∧ off = o2 := by simpa using e2
                have K := hide (unhide CCi k hkl)
                obtain ⟨x, hx⟩ : ∃ x, x = A.getD k ByteArray.empty := ⟨_, rfl⟩
                rw [← hx] at ck hst K
                generalize cB o true x y = r at hst K
                have mkS : Hid (∀ W, Hd w o W ∧ Below w5.heap.size w5 W → W.cell? ⟨w.heap.size, 0, none⟩ = some (.bool o.num) ∧ W.cell? ⟨w.heap.size, 1, none⟩ = some (.bool o.fold) ∧ W.cell? ⟨w.heap.size, 2, none⟩ = some (.bool o.bls) ∧ W.cell? ⟨w.heap.size, 3, none⟩ = some (.bool o.rev) ∧ W.cell? ⟨w.heap.size, 4, none⟩ = some (.int .i64 o.fr) ∧ W.cell? ⟨w.heap.size, 5, none⟩ = some (.int .i64 o.«to») ∧ W.cell? ⟨w.heap.size, 6, none⟩ = some (.int .u8 (o.sep.toNat : Int)) ∧ W.cell? ⟨g, off + k, none⟩ = some (.string x) ∧ W.cell? ⟨g, off + i, none⟩ = some (.string y) ∧ Hid (Hd w o W ∧ Below w5.heap.size w5 W)) := fun W h => by
                  obtain ⟨q0, q1, q2, q3, q4, q5, q6⟩ := h.1.1.cells
                  exact ⟨q0, q1, q2, q3, q4, q5, q6, (h.1.2.cell (p := ⟨g, off + k, none⟩) hgl).trans ck, (h.1.2.cell (p := ⟨g, off + i, none⟩) hgl).trans (unhide CI), h⟩
                have KK : Hid (∀ W, W.cell? ⟨w.heap.size, 0, none⟩ = some (.bool o.num) ∧ W.cell? ⟨w.heap.size, 1, none⟩ = some (.bool o.fold) ∧ W.cell? ⟨w.heap.size, 2, none⟩ = some (.bool o.bls) ∧ W.cell? ⟨w.heap.size, 3, none⟩ = some (.bool o.rev) ∧ W.cell? ⟨w.heap.size, 4, none⟩ = some (.int .i64 o.fr) ∧ W.cell? ⟨w.heap.size, 5, none⟩ = some (.int .i64 o.«to») ∧ W.cell? ⟨w.heap.size, 6, none⟩ = some (.int .u8 (o.sep.toNat : Int)) ∧ W.cell? ⟨g, off + k, none⟩ = some (.string x) ∧ W.cell? ⟨g, off + i, none⟩ = some (.string y) ∧ Hid (Hd w o W ∧ Below w5.heap.size w5 W) → Calls Tryz.prog 11 #[.agg #[.bool o.num, .bool o.fold, .bool o.bls, .bool o.rev, .int .i64 o.fr, .int .i64 o.«to», .int .u8 (o.sep.toNat : Int)], .string x, .string y] W fun e w' => e = .returned (.int .i64 r) ∧ w'.cell? ⟨w.heap.size, 0, none⟩ = some (.bool o.num) ∧ w'.cell? ⟨w.heap.size, 1, none⟩ = some (.bool o.fold) ∧ w'.cell? ⟨w.heap.size, 2, none⟩ = some (.bool o.bls) ∧ w'.cell? ⟨w.heap.size, 3, none⟩ = some (.bool o.rev) ∧ w'.cell? ⟨w.heap.size, 4, none⟩ = some (.int .i64 o.fr) ∧ w'.cell? ⟨w.heap.size, 5, none⟩ = some (.int .i64 o.«to») ∧ w'.cell? ⟨w.heap.size, 6, none⟩ = some (.int .u8 (o.sep.toNat : Int)) ∧ w'.cell? ⟨g, off + k, none⟩ = some (.string x) ∧ w'.cell? ⟨g, off + i, none⟩ = some (.string y) ∧ Hid (Hd w o w' ∧ Below w5.heap.size w5 w')) := fun W h =>
                  (unhide K W).mono fun e w' q => ⟨q.1, unhide mkS w' ⟨(unhide h.2.2.2.2.2.2.2.2.2).1.step q.2, (unhide h.2.2.2.2.2.2.2.2.2).2.trans (q.2.mono (unhide h.2.2.2.2.2.2.2.2.2).2.size)⟩⟩
                have hSd := unhide mkS wr.drew ⟨(unhide hH).drew, (unhide hB).drew⟩
                have hS0 := unhide mkS wr ⟨unhide hH, unhide hB⟩
                clear mkS K hx ck e2
                have hrb : Hid (freeTo o A (k + 1) y = !(r == 0)) := hst
                go_wp2_with fail
                go_region_held3 (fun w' => w'.cell? ⟨w.heap.size, 0, none⟩ = some (.bool o.num) ∧ w'.cell? ⟨w.heap.size, 1, none⟩ = some (.bool o.fold) ∧ w'.cell? ⟨w.heap.size, 2, none⟩ = some (.bool o.bls) ∧ w'.cell? ⟨w.heap.size, 3, none⟩ = some (.bool o.rev) ∧ w'.cell? ⟨w.heap.size, 4, none⟩ = some (.int .i64 o.fr) ∧ w'.cell? ⟨w.heap.size, 5, none⟩ = some (.int .i64 o.«to») ∧ w'.cell? ⟨w.heap.size, 6, none⟩ = some (.int .u8 (o.sep.toNat : Int)) ∧ w'.cell? ⟨g, off + k, none⟩ = some (.string x) ∧ w'.cell? ⟨g, off + i, none⟩ = some (.string y) ∧ Hid (Hd w o w' ∧ Below w5.heap.size w5 w')) (first | (with_reducible assumption) | go_keep)
                  (first | ((with_reducible refine (unhide KK _ (by assumption)).mono ?_); rintro e w6 ⟨rfl, hS6⟩) | fail)
                have hH6 := hide (unhide hS6.2.2.2.2.2.2.2.2.2).1
                have hB6 := hide (unhide hS6.2.2.2.2.2.2.2.2.2).2
                clear hS6 hSd hS0 KK hst
                go_wp2_with fail
                go_roundw
                case rel => exact ⟨k + 1, by omega, by rw [unhide hrb]; rfl, by go_num, hH6, hB6⟩
                case measure => simp [intOf]; omega
            · obtain rfl : k = i := by omega
              have hk' : ¬ (k : Int) < (k : Int) := by omega
              cases hf : freeTo o A k y
              · have hnx' : nfirst o A (k + 1) = nfirst o A k := by have q := unhide hnx; rw [hf] at q; simpa using q
                go_wp2_with fail
                go_roundw
                case rel => exact ⟨k + 1, by omega, by rw [hnx'], by go_num, hH, hB⟩
                case measure => simp [intOf]; omega
              · have hnx' : nfirst o A (k + 1) = nfirst o A k + 1 := by have q := unhide hnx; rw [hf] at q; simpa using q
                have hc1 := ((unhide hH).2.cell (p := ⟨g, off + k, none⟩) hgl).trans (unhide CI)
                have CMk := hide (unhide CMi hf)
                go_wp2_with fail
                refine (unhide CMk _ _ _ ((unhide T5).below (unhide hB))).mono ?_
                rintro e w7 ⟨rfl, b7⟩
                have hH7 := hide ((unhide hH).step b7)
                have hB7 := hide ((unhide hB).trans (b7.mono (unhide hB).size))
                clear b7 CMk hH hB hc1
                go_wp2_with fail
                go_roundw
                case rel => exact ⟨k + 1, by omega, by rw [hnx']; go_num, by go_num, hH7, hB7⟩
                case measure => simp [intOf]; omega
        · have hi : i = la := by omega
          subst hi
          have hend' := unhide hend
          rw [hend']
          go_wp2_with fail
          go_ret
          exact ⟨rfl, (unhide hH).2⟩
end Go.Proofs.YtjfjhpakkflceabGreatDoor.So
