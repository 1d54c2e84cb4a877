import Derived.Test.YtjfjhpakkflceaaGreatDoorSoSorted
import Derived.Test.YtjfjhpakkflceaaGreatDoorSoList
import Derived.Test.YtjfjhpakkflceaaGreatDoorTextsSize
import Derived.Test.YtjfjhpakkflceaaGreatDoorKyBase
import Derived.Test.YtjfjhpakkflceaaGreatDoorBookTF
import Derived.Test.YtjfjhpakkflceaaGreatDoorSoSrt
import Derived.Test.YtjfjhpakkflceaaGreatDoorTexts
import Derived.ProofKit
import Derived.OpenShut
import Derived.SizedLaws
import Derived.Deep.Strs
import Derived.Lib.SmallJoins
/- What the document's Sort answers. -/
namespace Go.Proofs.YtjfjhpakkflceaaGreatDoor.So
open Go.RowKit Go.Shelf Ky
open Pa (Tx)

attribute [local go_sem] Oper.semAt_some

theorem uqr_snoc {α : Type} (c : α → α → Int) : ∀ (p : α) (l : List α) (y : α), uqr c p (l ++ [y]) = uqr c p l ++ (if c ((p :: l).getLast (by simp)) y = 0 then [] else [y])
  | p, [], y => by simp only [List.nil_append, uqr, List.getLast_singleton]; by_cases h : c p y = 0 <;> simp [h]
  | p, z :: l, y => by
    have i := uqr_snoc c z l y
    have e : (p :: z :: l).getLast (by simp) = (z :: l).getLast (by simp) := by simp
    rw [e, List.cons_append]
    simp only [uqr]
    split
    · exact i
    · rw [i]; rfl
theorem uq_first1 {α : Type} (c : α → α → Int) (x : α) : uq c [x] = [x] := rfl
theorem uq_snoc {α : Type} (c : α → α → Int) (l : List α) (h : l ≠ []) (y : α) : uq c (l ++ [y]) = uq c l ++ (if c (l.getLast h) y = 0 then [] else [y]) := by
  cases l with
  | nil => exact absurd rfl h
  | cons x l => simp only [List.cons_append, uq]; rw [uqr_snoc]
/-- one line more -/
theorem uq_step (c : ByteArray → ByteArray → Int) (M : Ls) (i : Nat) (h : i < M.length) : (i = 0 → uq c (M.take (i + 1)) = uq c (M.take i) ++ [M.getD i ByteArray.empty]) ∧ (0 < i → uq c (M.take (i + 1)) = uq c (M.take i) ++ (if c (M.getD (i - 1) ByteArray.empty) (M.getD i ByteArray.empty) = 0 then [] else [M.getD i ByteArray.empty])) := by
  have e1 : M.take (i + 1) = M.take i ++ [M.getD i ByteArray.empty] := by
    rw [List.take_succ_eq_append_getElem h]; simp [List.getD, List.getElem?_eq_getElem h]
  constructor
  · intro h0; subst h0; rw [e1]; simp [uq, uqr]
  · intro h0
    have hne : M.take i ≠ [] := fun e => by have := congrArg List.length e; rw [List.length_take, List.length_nil] at this; omega
    have hl : (M.take i).getLast hne = M.getD (i - 1) ByteArray.empty := by
      rw [List.getLast_eq_getElem]
      simp [List.getD, List.getElem?_eq_getElem (show i - 1 < M.length by omega), show min i M.length - 1 = i - 1 by omega]
    rw [e1, uq_snoc c _ hne, hl]

set_option maxRecDepth 100000 in
set_option maxHeartbeats 1000000 in
theorem rsort_any (o : Ky.Ord) (u : Bool) (A : Ls) (a : Option Addr) (la ca : Nat) (w : World) (hT : Tx w a la ca A) (hl : la ≤ 4611686018427387904) (hca : ca ≤ 9223372036854775807) (hs : la ≤ 65536 → ∀ s ∈ A, s.size ≤ 1073741000) :
    Calls Tryz.prog 9 #[ov o, .slice a la ca, .bool u] w fun e w' => ∃ v, e = .returned (.tuple #[v, .int .i64 (sortE o la)]) ∧ w'.ownsRow w.heap.size 9 1 v (sortA o u A).length (strs (sortA o u A)) ∧ Below w.heap.size w w' := by
  obtain ⟨i0, hi, hz0, hz1, hz2⟩ := info_parts Pa.Tryz.infoStr
  have hlen := hT.len
  have CK := hide (fun W => rcheck_any o W)
  unfold ov at CK
  have H0 : Hid (Held w o (w.alloc (.cells #[.bool o.num, .bool o.fold, .bool o.bls, .bool o.rev, .int .i64 o.fr, .int .i64 o.«to», .int .u8 (o.sep.toNat : Int)] 23))) := ⟨OR.new w o, (Below.refl _ _).alloc (Nat.le_refl _) _⟩
  by_cases hbad : okO o = false ∨ 65536 < la
  · have hA : sortA o u A = [] := by
      unfold sortA sortE
      rw [hlen]
      rcases hbad with h | h
      · rw [if_pos h]; rfl
      · by_cases h1 : okO o = false
        · rw [if_pos h1]; rfl
        · rw [if_neg h1, if_pos h]; rfl
    rw [hA]
    have hnil : Hid (∀ W : World, W.ownsRow w.heap.size 9 1 (.slice none 0 0) ([] : Ls).length (strs [])) := fun W => World.ownsRow_nil _ _ _ _
    unfold ov sortE
    cases hok : okO o
    · rw [hok] at CK
      rw [if_pos rfl]
      clear hok hbad hA
      go_enter Tryz.func9, Tryz.ntmps9
      go_wp2_with fail
      refine (unhide CK _).mono ?_
      rintro e w1 ⟨rfl, b1⟩
      have H1 := hide ((unhide H0).step b1)
      clear b1 H0 CK
      go_wp2_with fail
      go_ret2
      exact ⟨_, rfl, unhide hnil _, (unhide H1).2⟩
    · rw [hok] at CK hbad
      have hbig : 65536 < la := by simpa using hbad
      have hbig' : (65536 : Int) < (la : Int) := by omega
      rw [if_neg (by simp), if_pos hbig]
      clear hok hbad hA hbig
      go_enter Tryz.func9, Tryz.ntmps9
      go_wp2_with fail
      refine (unhide CK _).mono ?_
      rintro e w1 ⟨rfl, b1⟩
      have H1 := hide ((unhide H0).step b1)
      clear b1 H0 CK
      go_wp2_with fail
      go_ret2
      exact ⟨_, rfl, unhide hnil _, (unhide H1).2⟩
  · have hok : okO o = true := by cases h : okO o <;> simp_all
    have hsm : la ≤ 65536 := by omega
    have hsm' : ¬ (65536 : Int) < (la : Int) := by omega
    have hE : sortE o la = 0 := by unfold sortE; rw [hok, if_neg (by simp), if_neg (by omega)]
    have hA : sortA o u A = sortL o u A := by unfold sortA; rw [hlen, hE, if_pos rfl]
    rw [hA, hE]
    rw [hok] at CK
    have hs' := hs hsm
    have hp := (ms_all (good_cB o u) _ A (Nat.le_refl _)).1
    have hMl : (ms (cB o u) A).length = la := by rw [hp.length_eq, hlen]
    have hMs : ∀ s ∈ ms (cB o u) A, s.size ≤ 1073741000 := fun s h => hs' s (hp.subset h)
    have CS : Hid (∀ W, Held w o W → Calls Tryz.prog 35 #[.agg #[.bool o.num, .bool o.fold, .bool o.bls, .bool o.rev, .int .i64 o.fr, .int .i64 o.«to», .int .u8 (o.sep.toNat : Int)], .bool u, .slice a la ca] W fun e w' => ∃ v, e = .returned v ∧ w'.ownsRow W.heap.size 9 1 v (ms (cB o u) A).length (strs (ms (cB o u) A)) ∧ Below W.heap.size W w') := fun W h => sorted_any o u A a la ca W (hT.below h.2) (by omega) hca hs'
    have CC : Hid (∀ x y, x ∈ ms (cB o u) A → y ∈ ms (cB o u) A → ∀ W, Calls Tryz.prog 36 #[.agg #[.bool o.num, .bool o.fold, .bool o.bls, .bool o.rev, .int .i64 o.fr, .int .i64 o.«to», .int .u8 (o.sep.toNat : Int)], .string x, .string y] W fun e w' => e = .returned (.int .i64 (Ky.compare o x.data.toList y.data.toList)) ∧ Below W.heap.size W w') := fun x y hx hy W => rcompare_any o x y W (hMs x hx) (hMs y hy)
    unfold ov
    clear hbad hok hs hE hA hs' hp hMs hT
    cases u
    · have hR : Hid (sortL o false A = ms (cB o false) A) := rfl
      go_enter Tryz.func9, Tryz.ntmps9
      go_wp2_with fail
      refine (unhide CK _).mono ?_
      rintro e w1 ⟨rfl, b1⟩
      have H1 := hide ((unhide H0).step b1)
      clear b1 H0 CK
      obtain ⟨d0, d1, d2, d3, d4, d5, d6⟩ := (unhide H1).1.cells
      go_wp2_with fail
      refine (unhide CS _ (unhide H1)).mono ?_
      rintro e w2 ⟨v2, rfl, O2, b2⟩
      have H2 := hide ((unhide H1).step b2)
      have O3 := hide (own_base O2 (unhide H1).2.size)
      obtain ⟨a2, c2, rfl, t2, q2⟩ := own_tx O2
      clear b2 H1 CS d0 d1 d2 d3 d4 d5 d6 O2 t2
      go_wp2_with fail
      go_ret2
      exact ⟨_, rfl, by rw [unhide hR]; have q := unhide O3; rw [hMl] at q ⊢; exact q, (unhide H2).2⟩
    · have hR : Hid (sortL o true A = uq (cB o true) (ms (cB o true) A)) := rfl
      go_enter Tryz.func9, Tryz.ntmps9
      go_wp2_with fail
      refine (unhide CK _).mono ?_
      rintro e w1 ⟨rfl, b1⟩
      have H1 := hide ((unhide H0).step b1)
      clear b1 H0 CK
      obtain ⟨d0, d1, d2, d3, d4, d5, d6⟩ := (unhide H1).1.cells
      go_wp2_with fail
      refine (unhide CS _ (unhide H1)).mono ?_
      rintro e w2 ⟨v2, rfl, O2, b2⟩
      have H2 := hide ((unhide H1).step b2)
      obtain ⟨a2, c2, rfl, t2, q2⟩ := own_tx O2
      obtain ⟨M, hM⟩ : ∃ M, M = ms (cB o true) A := ⟨_, rfl⟩
      rw [← hM] at t2 hMl CC ⊢
      rw [← hM] at hR
      have T2 := hide t2
      clear b2 H1 CS d0 d1 d2 d3 d4 d5 d6 O2 t2 hM
      go_wp2_with fail
      go_loopg [9, 10] la (fun g v9 v10 wr => ∃ (i : Nat) (O : Ls), i ≤ la ∧ g = la - i ∧ v10 = .int .i64 (i : Int) ∧ Hid (O = uq (cB o true) (M.take i) ∧ O.length ≤ i) ∧ Hid (wr.ownsRow w2.heap.size 9 1 v9 O.length (strs O)) ∧ Hid (Below w2.heap.size w2 wr))
      case atStart => exact ⟨0, [], Nat.zero_le _, rfl, rfl, ⟨rfl, Nat.le_refl _⟩, World.ownsRow_nil _ _ _ _, Below.refl _ _⟩
      case round =>
        obtain ⟨i, O, hil, rfl, rfl, hU, hO, hBl⟩ := hrel
        obtain ⟨s0, s1, s2, hv0⟩ := sl_of_own (unhide hO)
        subst hv0
        have hOl := (unhide hU).2
        by_cases hlt : i < la
        · have hlt' : (i : Int) < (la : Int) := by omega
          have hiM : i < M.length := by omega
          obtain ⟨g, off, hg0, hgl, ci⟩ := tx_at (unhide T2) hiM
          subst hg0
          have hyM := mem_at hiM
          have hstep := uq_step (cB o true) M i hiM
          rw [← (unhide hU).1] at hstep
          obtain ⟨y, hy⟩ : ∃ y, y = M.getD i ByteArray.empty := ⟨_, rfl⟩
          rw [← hy] at ci hyM hstep
          clear hy
          by_cases h0 : i = 0
          · have hU2 : Hid (O ++ [y] = uq (cB o true) (M.take (i + 1)) ∧ (O ++ [y]).length ≤ i + 1) := ⟨(hstep.1 h0).symm, by rw [List.length_append, List.length_singleton]; omega⟩
            have c1 := ((unhide hBl).cell (p := ⟨g, off + i, none⟩) hgl).trans ci
            have hO2 := hide (unhide hO).drew
            have hB2 := hide (unhide hBl).drew
            have hsz := (unhide hBl).size
            have h00 : ((i : Int) == 0) = true := by simp [h0]
            clear hstep ci h0
            go_wp2_with fail
            go_region
            go_wp2_with (at_builtin; refine wpList_append_own _ rfl _ _ 24 rfl w2.heap.size 9 i0 _ 1 16 Tryz.underlying24 hi hz0 hz1 hz2 rfl (by decide) _ _ _ rfl ((unhide hO2).alloc _) ⟨wr.heap.size, 0, none⟩ 1 1 [.string y] rfl rfl (one_new2 _ _ _) (one_one2 _) (by unfold maxLen; omega) (by omega) (by simp; omega) ?_)
            intro v1 w4 hO1 hg1 _
            have hB1 : Hid (Below w2.heap.size w2 w4) := ((unhide hB2).alloc hsz _).grown hg1 (by simp; omega) (fun z ez => ((unhide hO2).lt z ez).1)
            have hO3 : Hid (w4.ownsRow w2.heap.size 9 1 v1 (O ++ [y]).length (strs (O ++ [y]))) := by
              show w4.ownsRow _ _ _ _ _ _
              rw [strs_snoc, List.length_append]
              exact hO1
            obtain ⟨y0, y1, y2, hv1⟩ := sl_of_own hO1
            subst hv1
            clear hO1 hg1 hO2 hB2
            go_wp2_with fail
            go_roundg (la - (i + 1))
            case measure => omega
            case rel => exact ⟨i + 1, _, by omega, rfl, by go_num, hU2, hO3, hB1⟩
          · have hiP : i - 1 < M.length := by omega
            obtain ⟨m, hm⟩ : ∃ m, m = i - 1 := ⟨_, rfl⟩
            rw [← hm] at hiP hstep
            have hm' : (i : Int) - 1 = (m : Int) := by omega
            have hw1 : IntKind.i64.wrap ((i : Int) - 1) = (m : Int) := by rw [IntKind.wrap_i64]; omega
            have hw2 : IntKind.i64.wrap (m : Int) = (m : Int) := by rw [IntKind.wrap_i64]; omega
            have h00 : ((i : Int) == 0) = false := by simp; omega
            have hxM := mem_at hiP
            obtain ⟨g2, o2, e2, _, cm⟩ := tx_at (unhide T2) hiP
            obtain ⟨rfl, rfl⟩ : g = g2 ∧ off = o2 := by simpa using e2
            obtain ⟨x, hx⟩ : ∃ x, x = M.getD m ByteArray.empty := ⟨_, rfl⟩
            rw [← hx] at cm hxM hstep
            have hst := hstep.2 (by omega)
            have HST := hide hst
            have CI := hide ci
            have CM := hide cm
            have SS : Hid (∀ W, Hid (W.ownsRow w2.heap.size 9 1 (.slice s0 s1 s2) O.length (strs O) ∧ Below w2.heap.size w2 W) → W.cell? ⟨w.heap.size, 0, none⟩ = some (.bool o.num) ∧ W.cell? ⟨w.heap.size, 1, none⟩ = some (.bool o.fold) ∧ W.cell? ⟨w.heap.size, 2, none⟩ = some (.bool o.bls) ∧ W.cell? ⟨w.heap.size, 3, none⟩ = some (.bool o.rev) ∧ W.cell? ⟨w.heap.size, 4, none⟩ = some (.int .i64 o.fr) ∧ W.cell? ⟨w.heap.size, 5, none⟩ = some (.int .i64 o.«to») ∧ W.cell? ⟨w.heap.size, 6, none⟩ = some (.int .u8 (o.sep.toNat : Int)) ∧ W.cell? ⟨g, off + m, none⟩ = some (.string x) ∧ W.cell? ⟨g, off + i, none⟩ = some (.string y) ∧ Hid (W.ownsRow w2.heap.size 9 1 (.slice s0 s1 s2) O.length (strs O) ∧ Below w2.heap.size w2 W)) := fun W h => by
              obtain ⟨e0, e1, e2, e3, e4, e5, e6⟩ := ((unhide H2).step (unhide h).2).1.cells
              exact ⟨e0, e1, e2, e3, e4, e5, e6, ((unhide h).2.cell (p := ⟨g, off + m, none⟩) hgl).trans (unhide CM), ((unhide h).2.cell (p := ⟨g, off + i, none⟩) hgl).trans (unhide CI), h⟩
            have K0 := unhide CC x y hxM hyM
            have hrg := (good_compare o).rg x.data.toList y.data.toList
            have hcB : cB o true x y = Ky.compare o x.data.toList y.data.toList := rfl
            rw [hcB] at HST
            generalize Ky.compare o x.data.toList y.data.toList = n at *
            have K : Hid (∀ W, W.cell? ⟨w.heap.size, 0, none⟩ = some (.bool o.num) ∧ W.cell? ⟨w.heap.size, 1, none⟩ = some (.bool o.fold) ∧ W.cell? ⟨w.heap.size, 2, none⟩ = some (.bool o.bls) ∧ W.cell? ⟨w.heap.size, 3, none⟩ = some (.bool o.rev) ∧ W.cell? ⟨w.heap.size, 4, none⟩ = some (.int .i64 o.fr) ∧ W.cell? ⟨w.heap.size, 5, none⟩ = some (.int .i64 o.«to») ∧ W.cell? ⟨w.heap.size, 6, none⟩ = some (.int .u8 (o.sep.toNat : Int)) ∧ W.cell? ⟨g, off + m, none⟩ = some (.string x) ∧ W.cell? ⟨g, off + i, none⟩ = some (.string y) ∧ Hid (W.ownsRow w2.heap.size 9 1 (.slice s0 s1 s2) O.length (strs O) ∧ Below w2.heap.size w2 W) → Calls Tryz.prog 36 #[.agg #[.bool o.num, .bool o.fold, .bool o.bls, .bool o.rev, .int .i64 o.fr, .int .i64 o.«to», .int .u8 (o.sep.toNat : Int)], .string x, .string y] W fun e w' => e = .returned (.int .i64 n) ∧ w'.cell? ⟨w.heap.size, 0, none⟩ = some (.bool o.num) ∧ w'.cell? ⟨w.heap.size, 1, none⟩ = some (.bool o.fold) ∧ w'.cell? ⟨w.heap.size, 2, none⟩ = some (.bool o.bls) ∧ w'.cell? ⟨w.heap.size, 3, none⟩ = some (.bool o.rev) ∧ w'.cell? ⟨w.heap.size, 4, none⟩ = some (.int .i64 o.fr) ∧ w'.cell? ⟨w.heap.size, 5, none⟩ = some (.int .i64 o.«to») ∧ w'.cell? ⟨w.heap.size, 6, none⟩ = some (.int .u8 (o.sep.toNat : Int)) ∧ w'.cell? ⟨g, off + m, none⟩ = some (.string x) ∧ w'.cell? ⟨g, off + i, none⟩ = some (.string y) ∧ Hid (w'.ownsRow w2.heap.size 9 1 (.slice s0 s1 s2) O.length (strs O) ∧ Below w2.heap.size w2 w')) := fun W h => (K0 W).mono fun e w' q => ⟨q.1, unhide SS w' ⟨own_below (unhide h.2.2.2.2.2.2.2.2.2).1 q.2, (unhide h.2.2.2.2.2.2.2.2.2).2.trans (q.2.mono (unhide h.2.2.2.2.2.2.2.2.2).2.size)⟩⟩
            have hS := unhide SS wr ⟨unhide hO, unhide hBl⟩
            have hSd := unhide SS wr.drew ⟨(unhide hO).drew, (unhide hBl).drew⟩
            have HRG := hide hrg
            have mb : (0 : Int) ≤ (m : Int) := by omega
            have mb2 : (m : Int) < (la : Int) := by omega
            clear K0 SS hO hBl hst hstep hx hm e2 cm ci hcB hrg
            go_wp2_with fail
            go_region_held3 (fun w' => w'.cell? ⟨w.heap.size, 0, none⟩ = some (.bool o.num) ∧ w'.cell? ⟨w.heap.size, 1, none⟩ = some (.bool o.fold) ∧ w'.cell? ⟨w.heap.size, 2, none⟩ = some (.bool o.bls) ∧ w'.cell? ⟨w.heap.size, 3, none⟩ = some (.bool o.rev) ∧ w'.cell? ⟨w.heap.size, 4, none⟩ = some (.int .i64 o.fr) ∧ w'.cell? ⟨w.heap.size, 5, none⟩ = some (.int .i64 o.«to») ∧ w'.cell? ⟨w.heap.size, 6, none⟩ = some (.int .u8 (o.sep.toNat : Int)) ∧ w'.cell? ⟨g, off + m, none⟩ = some (.string x) ∧ w'.cell? ⟨g, off + i, none⟩ = some (.string y) ∧ Hid (w'.ownsRow w2.heap.size 9 1 (.slice s0 s1 s2) O.length (strs O) ∧ Below w2.heap.size w2 w')) (first | assumption | go_keep)
              (with_reducible refine (unhide K _ (by assumption)).mono ?_; rintro e w' ⟨rfl, hS1⟩)
            obtain ⟨c0, c1, c2, c3, c4, c5, c6, cx, cy, hSt⟩ := hS1
            clear hS hSd K c0 c1 c2 c3 c4 c5 c6 cx
            have hrg := unhide HRG
            have hO2 := hide (unhide hSt).1
            have hB2 := hide (unhide hSt).2
            have hsz := (unhide hSt).2.size
            by_cases hn0 : n = 0
            · have hU2 : Hid (O = uq (cB o true) (M.take (i + 1)) ∧ O.length ≤ i + 1) := ⟨by have q := unhide HST; rw [if_pos hn0, List.append_nil] at q; exact q.symm, by omega⟩
              subst hn0
              clear hrg HRG HST hSt cy
              go_wp2_with fail
              go_roundg (la - (i + 1))
              case measure => omega
              case rel => exact ⟨i + 1, O, by omega, rfl, by go_num, hU2, hO2, hB2⟩
            · have hU2 : Hid (O ++ [y] = uq (cB o true) (M.take (i + 1)) ∧ (O ++ [y]).length ≤ i + 1) := ⟨by have q := unhide HST; rw [if_neg hn0] at q; exact q.symm, by rw [List.length_append, List.length_singleton]; omega⟩
              have hn1 : (n != 0) = true := by simpa using hn0
              clear hrg HRG HST hSt hn0
              go_wp2_with (at_builtin; refine wpList_append_own _ rfl _ _ 24 rfl w2.heap.size 9 i0 _ 1 16 Tryz.underlying24 hi hz0 hz1 hz2 rfl (by decide) _ _ _ rfl ((unhide hO2).alloc _) ⟨w'.heap.size, 0, none⟩ 1 1 [.string y] rfl rfl (one_new2 _ _ _) (one_one2 _) (by unfold maxLen; omega) (by omega) (by simp; omega) ?_)
              intro v1 w4 hO1 hg1 _
              have hB1 : Hid (Below w2.heap.size w2 w4) := ((unhide hB2).alloc hsz _).grown hg1 (by simp; omega) (fun z ez => ((unhide hO2).lt z ez).1)
              have hO3 : Hid (w4.ownsRow w2.heap.size 9 1 v1 (O ++ [y]).length (strs (O ++ [y]))) := by
                show w4.ownsRow _ _ _ _ _ _
                rw [strs_snoc, List.length_append]
                exact hO1
              obtain ⟨y0, y1, y2, hv1⟩ := sl_of_own hO1
              subst hv1
              clear hO1 hg1 hO2 hB2
              go_wp2_with fail
              go_roundg (la - (i + 1))
              case measure => omega
              case rel => exact ⟨i + 1, _, by omega, rfl, by go_num, hU2, hO3, hB1⟩
        · have hlt' : ¬ (i : Int) < (la : Int) := by omega
          obtain rfl : i = la := by omega
          have hR2 : Hid (sortL o true A = O) := by show _ = _; rw [unhide hR, (unhide hU).1, List.take_of_length_le (by omega)]
          have hB2 : Hid (Below w.heap.size w wr) := (unhide H2).2.trans ((unhide hBl).mono (unhide H2).2.size)
          have hO2 := hide (own_base (unhide hO) (unhide H2).2.size)
          clear hU hO hBl hR hlt
          go_wp2_with fail
          go_ret2
          exact ⟨_, rfl, by rw [unhide hR2]; exact unhide hO2, unhide hB2⟩
end Go.Proofs.YtjfjhpakkflceaaGreatDoor.So

/- What great answers: whether lines are more than are gone through. -/
namespace Go.Proofs.YtjfjhpakkflceaaGreatDoor.So
open Go.RowKit Go.Shelf Ky
open Pa (Tx tot)

attribute [local go_sem] Oper.semAt_some

set_option maxRecDepth 100000 in
set_option maxHeartbeats 400000 in
theorem great_lines (A : Ls) (a : Option Addr) (la ca : Nat) (w : World) (hT : Tx w a la ca A) (hl : la ≤ 4611686018427387904) (hs : ∀ s ∈ A, s.size ≤ 4611686018427387904) :
    Calls Tryz.prog 6 #[.slice a la ca] w fun e w' => ∃ r : Bool, e = .returned (.bool r) ∧ (r = false → (la ≤ 3000 ∨ 65536 < la) ∧ la + tot A ≤ 300000) ∧ Below w.heap.size w w' := by
  have C := hide (Pa.textsSize_any a la ca A w hT hl hs)
  have hw : ((3000 : Int) < la ∧ (la : Int) ≤ 65536) ∨ (¬ (3000 : Int) < la) ∨ ((3000 : Int) < la ∧ ¬ (la : Int) ≤ 65536) := by omega
  clear hT hs
  rcases hw with ⟨h1, h2⟩ | h1 | ⟨h1, h2⟩
  · clear C
    go_enter Tryz.func6, Tryz.ntmps6
    go_wp2_with fail
    go_ret
    exact ⟨true, rfl, (fun h => by cases h), Below.refl _ _⟩
  · go_enter Tryz.func6, Tryz.ntmps6
    go_wp2_with fail
    refine (unhide C).mono ?_
    rintro e w1 ⟨⟨v, rfl, h3, h4, h5⟩, hw1⟩
    rw [hw1]
    have H5 := hide h5
    clear h5 C hw1
    go_wp2_with fail
    go_ret
    refine ⟨_, rfl, fun h => ⟨.inl (by omega), ?_⟩, Below.refl _ _⟩
    have h6 : ¬ (300000 : Int) < v := by simpa using h
    have := unhide H5 (by omega)
    omega
  · go_enter Tryz.func6, Tryz.ntmps6
    go_wp2_with fail
    refine (unhide C).mono ?_
    rintro e w1 ⟨⟨v, rfl, h3, h4, h5⟩, hw1⟩
    rw [hw1]
    have H5 := hide h5
    clear h5 C hw1
    go_wp2_with fail
    go_ret
    refine ⟨_, rfl, fun h => ⟨.inr (by omega), ?_⟩, Below.refl _ _⟩
    have h6 : ¬ (300000 : Int) < v := by simpa using h
    have := unhide H5 (by omega)
    omega
end Go.Proofs.YtjfjhpakkflceaaGreatDoor.So

/- SortsSorts returns true. -/
namespace Go.Proofs.YtjfjhpakkflceaaGreatDoor.So
open Go.RowKit Go.Shelf Ky
open Pa (Tx tot TwinT)

attribute [local go_sem] Oper.semAt_some

theorem tot_mem2 : ∀ {A : Ls} {s : ByteArray}, s ∈ A → s.size ≤ tot A
  | x :: l, s, h => by
    rcases List.mem_cons.1 h with rfl | h
    · simp [tot]
    · have := tot_mem2 h; simp [tot]; omega

abbrev Row (B : Nat) (v : Value) (L : Ls) (w : World) : Prop := w.ownsRow B 9 1 v L.length (strs L)
theorem Row.below {B : Nat} {v : Value} {L : Ls} {w w' : World} (h : Row B v L w) (hb : Below w.heap.size w w') : Row B v L w' :=
  h.kept (row := none) ⟨hb.os, hb.tape, hb.output, hb.size, fun k hk _ => hb.block k hk⟩ (by cases v.ownBlock <;> simp)
theorem aloof {w w' : World} {B1 B2 : Nat} {v1 v2 : Value} {s1 s2 : Ls} (h1 : Row B1 v1 s1 w) (h2 : Row B2 v2 s2 w') (h : w.heap.size ≤ B2) : ∀ k, v1.ownBlock = some k → v2.ownBlock = some k → False := by
  intro k k1 k2
  have := (Bk.own_block h1 k k1).1
  have := Bk.own_lo h2 k k2
  omega
theorem same_rows {b1 b2 : Nat} {v1 v2 : Value} {L : Ls} {w : World} (h1 : Row b1 v1 L w) (h2 : Row b2 v2 L w) (hn : L.length ≤ 4611686018427387904) :
    Calls Tryz.prog 10 #[v1, v2] w fun e w' => e = .returned (.bool true) ∧ Below w.heap.size w w' := by
  obtain ⟨a1, c1, rfl, f1⟩ := Pa.tx_of_owns h1
  obtain ⟨a2, c2, rfl, f2⟩ := Pa.tx_of_owns h2
  exact Pa.sameTexts_any a1 a2 L.length c1 c2 c1 c2 L w hn f1 f2
/-- a twin is a row, and its lines are there -/
theorem twin_row {w : World} {base g n : Nat} {L : Ls} (h : TwinT w base g n L) (hn : L.length = n) : Row base (.slice (some ⟨g, 0, none⟩) n (n + 1)) L w := by
  subst hn; exact h.1
theorem twin_tx {w : World} {base g n : Nat} {L : Ls} (h : TwinT w base g n L) (hn : L.length = n) : Tx w (some ⟨g, 0, none⟩) n (n + 1) L := by
  subst hn
  obtain ⟨x, c, e, t⟩ := Pa.tx_of_owns h.1
  obtain ⟨rfl, -, rfl⟩ := Value.slice.inj e
  exact t
theorem twin_below {w w' : World} {base g n : Nat} {L : Ls} (h : TwinT w base g n L) (hb : Below w.heap.size w w') : TwinT w' base g n L :=
  ⟨h.1.kept (row := none) ⟨hb.os, hb.tape, hb.output, hb.size, fun k hk _ => hb.block k hk⟩ (by cases (Value.slice (some ⟨g, 0, none⟩) n (n + 1)).ownBlock <;> simp), (hb.cell (p := ⟨g, n, none⟩) (World.block_lt_of_cell? w _ h.2)).trans h.2⟩

theorem no_flags (B : Nat) (w : World) : Bk.Given B 118 2 [] w := ⟨(fun x hx => by simp at hx), List.Pairwise.nil⟩

/-- the three lists that the Book is given -/
structure Thr (N : Nat) (A B : Ls) (a b c : Value) (w : World) : Prop where
  a : Row N a A w
  b : Row N b B w
  c : Row N c B w
theorem Thr.below {N : Nat} {A B : Ls} {a b c : Value} {w w' : World} (h : Thr N A B a b c w) (hb : Below w.heap.size w w') : Thr N A B a b c w' :=
  ⟨h.a.below hb, h.b.below hb, h.c.below hb⟩
theorem Thr.kp {N : Nat} {A B : Ls} {a b c : Value} {w w' : World} (h : Thr N A B a b c w) (hb : Bk.Kp N w w') : Thr N A B a b c w' :=
  ⟨hb.text h.a, hb.text h.b, hb.text h.c⟩
structure Aloof3 (a b c : Value) : Prop where
  ab : ∀ k, a.ownBlock = some k → b.ownBlock = some k → False
  ac : ∀ k, a.ownBlock = some k → c.ownBlock = some k → False
  bc : ∀ k, b.ownBlock = some k → c.ownBlock = some k → False
theorem Thr.texts {N : Nat} {A B : Ls} {a b c : Value} {w : World} (h : Thr N A B a b c w) (hA : Aloof3 a b c) (h1 : A.length ≤ 4194304) (h2 : B.length ≤ 4194304) :
    Bk.Given N 9 1 [⟨a, 1, A.length, strs A⟩, ⟨b, 2, B.length, strs B⟩, ⟨c, 3, B.length, strs B⟩] w := by
  refine ⟨?_, ?_⟩
  · intro x hx
    simp only [List.mem_cons, List.not_mem_nil, or_false] at hx
    rcases hx with rfl | rfl | rfl
    · exact ⟨h.a, by simp, h1⟩
    · exact ⟨h.b, by simp, h2⟩
    · exact ⟨h.c, by simp, h2⟩
  · refine List.Pairwise.cons ?_ (List.Pairwise.cons ?_ (List.Pairwise.cons ?_ List.Pairwise.nil))
    · intro x hx
      simp only [List.mem_cons, List.not_mem_nil, or_false] at hx
      rcases hx with rfl | rfl
      · exact hA.ab
      · exact hA.ac
    · intro x hx
      simp only [List.mem_cons, List.not_mem_nil, or_false] at hx
      subst hx
      exact hA.bc
    · intro x hx
      cases hx
theorem sortA_le (o : Ky.Ord) (u : Bool) (l : Ls) : (sortA o u l).length ≤ l.length := by
  unfold sortA
  split
  · exact sortL_le o u l
  · simp

set_option maxRecDepth 100000 in
set_option maxHeartbeats 2000000 in
theorem sortsSorts_any (o : Ky.Ord) (u : Bool) (A : Ls) (a : Option Addr) (la ca : Nat) (w : World) (hT : Tx w a la ca A) (hl : la ≤ 4611686018427387904) (hca : ca ≤ 9223372036854775807) (hs : ∀ s ∈ A, s.size ≤ 4611686018427387904) :
    Calls Tryz.prog 3 #[ov o, .slice a la ca, .bool u] w fun e w' => e = .returned (.bool true) ∧ Below w.heap.size w w' := by
  have H0 : Hid (Hd w o (w.alloc (.cells #[.bool o.num, .bool o.fold, .bool o.bls, .bool o.rev, .int .i64 o.fr, .int .i64 o.«to», .int .u8 (o.sep.toNat : Int)] 23))) := Hd.new w o
  have HT := hide hT
  have LA := hide hT.len
  have GR : Hid (∀ W, Hd w o W → Calls Tryz.prog 6 #[.slice a la ca] W fun e w' => ∃ r : Bool, e = .returned (.bool r) ∧ (r = false → (la ≤ 3000 ∨ 65536 < la) ∧ la + tot A ≤ 300000) ∧ Below W.heap.size W w') := fun W h => great_lines A a la ca W (hT.below h.2) hl hs
  clear hT hs
  unfold ov
  go_enter Tryz.func3, Tryz.ntmps3
  go_wp2_with fail
  refine (unhide GR _ (unhide H0)).mono ?_
  rintro e w1 ⟨r, rfl, hr, b1⟩
  have H1 := hide ((unhide H0).step b1)
  clear b1 H0 GR
  cases r
  · obtain ⟨hr1, hr2⟩ := hr rfl
    clear hr
    have hla : la ≤ 300000 := by omega
    have hAs : ∀ s ∈ A, s.size ≤ 1073741000 := fun s h => by have := tot_mem2 h; omega
    have hMl := sortA_le o u A
    rw [unhide LA] at hMl
    have C1 := hide (Pa.twinTexts_any a la ca A w1 ((unhide HT).below (unhide H1).2) (by omega))
    have C2 : Hid (∀ W y, Tx W y la (la + 1) A → Calls Tryz.prog 8 #[.agg #[.bool o.num, .bool o.fold, .bool o.bls, .bool o.rev, .int .i64 o.fr, .int .i64 o.«to», .int .u8 (o.sep.toNat : Int)], .slice y la (la + 1), .bool u] W fun e w' => ∃ v, e = .returned (.tuple #[v, .int .i64 (sortE o la)]) ∧ Row W.heap.size v (sortA o u A) w' ∧ Below W.heap.size W w') := fun W y h => sort_any o u A y la (la + 1) W h hl (fun _ => hAs)
    have C3 : Hid (∀ W, Hd w o W → Calls Tryz.prog 9 #[.agg #[.bool o.num, .bool o.fold, .bool o.bls, .bool o.rev, .int .i64 o.fr, .int .i64 o.«to», .int .u8 (o.sep.toNat : Int)], .slice a la ca, .bool u] W fun e w' => ∃ v, e = .returned (.tuple #[v, .int .i64 (sortE o la)]) ∧ Row W.heap.size v (sortA o u A) w' ∧ Below W.heap.size W w') := fun W h => rsort_any o u A a la ca W ((unhide HT).below h.2) hl hca (fun _ => hAs)
    have C4 : Hid (∀ W g, Hd w o W → TwinT W g g la A → Calls Tryz.prog 11 #[.slice (some ⟨g, 0, none⟩) la (la + 1), .slice a la ca] W fun e w' => e = .returned (.bool true) ∧ Below W.heap.size W w') := fun W g h t => Pa.leftTexts_any g g a la ca A W ((unhide HT).below h.2) t (by omega)
    generalize sortE o la = z at *
    generalize sortA o u A = M at *
    clear HT hAs
    have N1 := hide (unhide H1).2.size
    go_wp2_with fail
    refine (unhide C1).mono ?_
    rintro e w2 ⟨rfl, t2, b2⟩
    have H2 := hide ((unhide H1).step b2)
    have T2 := hide t2
    have N2 := hide b2.size
    clear b2 t2 C1 H1
    obtain ⟨d0, d1, d2, d3, d4, d5, d6⟩ := (unhide H2).1.cells
    go_wp2_with fail
    refine (unhide C2 _ _ (twin_tx (unhide T2) (unhide LA))).mono ?_
    rintro e w3 ⟨va, rfl, r3, b3⟩
    have H3 := hide ((unhide H2).step b3)
    have T3 := hide (twin_below (unhide T2) b3)
    have Aab := hide (aloof (twin_row (unhide T2) (unhide LA)) r3 (Nat.le_refl _))
    have R3' := hide r3
    have N3 := hide b3.size
    clear b3 r3 H2 T2 d0 d1 d2 d3 d4 d5 d6
    obtain ⟨d0, d1, d2, d3, d4, d5, d6⟩ := (unhide H3).1.cells
    go_wp2_with fail
    refine (unhide C2 _ _ (twin_tx (unhide T3) (unhide LA))).mono ?_
    rintro e w4 ⟨vb, rfl, r4, b4⟩
    have H4 := hide ((unhide H3).step b4)
    have T4 := hide (twin_below (unhide T3) b4)
    have HAL : Hid (Aloof3 (.slice (some ⟨w1.heap.size, 0, none⟩) la (la + 1)) va vb) := ⟨unhide Aab, aloof (twin_row (unhide T3) (unhide LA)) r4 (Nat.le_refl _), aloof (unhide R3') r4 (Nat.le_refl _)⟩
    have HF4 : Hid (Thr w.heap.size A M (.slice (some ⟨w1.heap.size, 0, none⟩) la (la + 1)) va vb w4) := by
      have n1 := unhide N1
      have n2 := unhide N2
      have n3 := unhide N3
      exact ⟨Bk.own_base (twin_row (unhide T4) (unhide LA)) (by omega), Bk.own_base ((unhide R3').below b4) (by omega), Bk.own_base r4 (by omega)⟩
    clear b4 r4 R3' H3 T3 Aab d0 d1 d2 d3 d4 d5 d6 C2 N1 N2 N3
    obtain ⟨d0, d1, d2, d3, d4, d5, d6⟩ := (unhide H4).1.cells
    go_wp2_with fail
    refine (unhide C3 _ (unhide H4)).mono ?_
    rintro e w5 ⟨vx, rfl, r5, b5⟩
    have H5 := hide ((unhide H4).step b5)
    have T5 := hide (twin_below (unhide T4) b5)
    have HF5 := hide ((unhide HF4).below b5)
    have X5 := hide r5
    clear b5 r5 H4 T4 HF4 C3 d0 d1 d2 d3 d4 d5 d6
    go_wp2_with fail
    refine (same_rows (unhide HF5).b (unhide X5) (by omega)).mono ?_
    rintro e w6 ⟨rfl, b6⟩
    have H6 := hide ((unhide H5).step b6)
    have T6 := hide (twin_below (unhide T5) b6)
    have HF6 := hide ((unhide HF5).below b6)
    have X6 := hide (Row.below (unhide X5) b6)
    clear b6 H5 T5 HF5 X5
    go_wp2_with fail
    refine (same_rows (unhide HF6).c (unhide X6) (by omega)).mono ?_
    rintro e w7 ⟨rfl, b7⟩
    have H7 := hide ((unhide H6).step b7)
    have T7 := hide (twin_below (unhide T6) b7)
    have HF7 := hide ((unhide HF6).below b7)
    clear b7 H6 T6 HF6 X6
    have hzz : (z == z) = true := by simp
    go_wp2_with fail
    refine (unhide C4 _ _ (unhide H7) (unhide T7)).mono ?_
    rintro e w9 ⟨rfl, b8⟩
    have HBa := hide ((unhide H7).step b8).2
    have HFa := hide ((unhide HF7).below b8)
    clear b8 H7 T7 HF7 C4
    go_wp2_with fail
    obtain ⟨P, hP⟩ : ∃ P, P = w9.heap.size := ⟨_, rfl⟩
    rw [← hP]
    have hs9 := (unhide HBa).size
    obtain ⟨w10, hw10⟩ : ∃ W, W = w9.alloc (Obj.cells #[Value.int IntKind.i64 0, Value.slice none 0 0, Value.slice none 0 0, Value.slice none 0 0, Value.slice none 0 0, Value.slice none 0 0, Value.slice none 0 0, Value.slice none 0 0, Value.slice none 0 0, Value.slice none 0 0, Value.slice none 0 0, Value.slice none 0 0, Value.slice none 0 0] 44) := ⟨_, rfl⟩
    rw [← hw10]
    have hO := Bk.own_new w9 P hP
    rw [← hw10] at hO
    have hb10 : Below w9.heap.size w9 w10 := by rw [hw10]; exact (Below.refl _ _).alloc (Nat.le_refl _) _
    have HF10 := hide ((unhide HFa).below hb10)
    have HB10 : Hid (Below w.heap.size w w10) := (unhide HBa).trans (hb10.mono hs9)
    have K0 : Hid (Bk.BTF w.heap.size P 0 [] [] w10) := Bk.BTF.start hO (by omega) (unhide HB10).size
    clear hw10 hO hb10 hP hs9 HFa HBa
    refine (Bk.texts_step _ _ _ _ _ _ (unhide K0) _ _ _ _ _ (unhide HF10).a (by decide) (by decide)).mono ?_
    rintro e w11 ⟨rfl, k1, hk1⟩
    have K1 := hide k1
    have HF11 := hide ((unhide HF10).kp hk1)
    have HB11 : Hid (Below w.heap.size w w11) := (unhide HB10).trans (hk1.below (unhide HB10).size)
    clear k1 hk1 K0 HF10 HB10
    go_wp2_with fail
    refine (Bk.texts_step _ _ _ _ _ _ (unhide K1) _ _ _ _ _ (unhide HF11).b (by decide) (by simp)).mono ?_
    rintro e w12 ⟨rfl, k1, hk1⟩
    have K2 := hide k1
    have HF12 := hide ((unhide HF11).kp hk1)
    have HB12 : Hid (Below w.heap.size w w12) := (unhide HB11).trans (hk1.below (unhide HB11).size)
    clear k1 hk1 K1 HF11 HB11
    go_wp2_with fail
    refine (Bk.texts_step _ _ _ _ _ _ (unhide K2) _ _ _ _ _ (unhide HF12).c (by decide) (by simp)).mono ?_
    rintro e w13 ⟨rfl, k1, hk1⟩
    have K3 := hide k1
    have HF13 := hide ((unhide HF12).kp hk1)
    have HB13 : Hid (Below w.heap.size w w13) := (unhide HB12).trans (hk1.below (unhide HB12).size)
    clear k1 hk1 K2 HF12 HB12
    have la1 := unhide LA
    go_wp2_with fail
    refine (Bk.apart_step _ _ _ _ _ _ (unhide K3) (by exact (unhide HF13).texts (unhide HAL) (by omega) (by omega)) (no_flags _ _) (by simp) (by simp)).mono ?_
    rintro e w16 ⟨rfl, hb16⟩
    have HB16 : Hid (Below w.heap.size w w16) := (unhide HB13).trans hb16
    clear hb16 K3 HF13 HB13
    go_wp2_with fail
    go_ret
    exact ⟨rfl, unhide HB16⟩
  · clear hr
    go_wp2_with fail
    go_ret
    exact ⟨rfl, (unhide H1).2⟩
end Go.Proofs.YtjfjhpakkflceaaGreatDoor.So

/- A list of texts that came in, opened. -/
namespace Go.Proofs.YtjfjhpakkflceaaGreatDoor.Pa
open Go.ChangeShapes Go.WideShapes Go.ChangeAt Go.RowKit Go.Deep

theorem Tryz.cellsStr : Tryz.prog.cellsOf 9 = 1 := by kernel_rfl
theorem Tryz.bytesStr : Tryz.prog.bytesOf 9 = 16 := by kernel_rfl

theorem weightsAll_mem {H : Type} {P : Program} {e : TypeId} {d : DataW H} {n : Nat} : ∀ {l : List (DataW H)}, d ∈ l → n ∈ d.weights P e → n ∈ DataW.weightsAll P e l
  | [], h, _ => by simp at h
  | x :: l, h, hn => by
    simp only [DataW.weightsAll, List.mem_append]
    rcases List.mem_cons.1 h with rfl | h
    · exact .inl hn
    · exact .inr (weightsAll_mem h hn)

theorem open_texts {H : Type} {enc : TypeId × Value → H} {W : World} {base fuel : Nat} {spare : Nat → Bool} {held : Bool} {a : Option Addr} {len cap : Nat} {x : DataW H × List MemPlace}
    (hf : DataW.trod enc Tryz.prog W base spare held fuel 24 (Value.slice a len cap).cells.toList = some x) (hz : ∀ n ∈ x.1.weights Tryz.prog 24, n ≤ reachBytes) :
    ∃ ss : List ByteArray, Tx W a len cap ss ∧ (∀ s ∈ ss, s.size ≤ reachBytes) ∧ len * 16 ≤ reachBytes := by
  rcases open_strs Tryz.underlying24 Tryz.underlying9 Tryz.cellsStr hf with ⟨hcs, _⟩ | ⟨a', len', cap', m, Sx, hcs, _, hl, hm, hmm, hx, hc⟩
  · simp [Value.cells] at hcs
    obtain ⟨rfl, rfl, rfl⟩ := hcs
    exact ⟨[], ⟨rfl, Nat.le_refl _, fun _ => ⟨rfl, rfl⟩, .inl rfl⟩, by simp, by simp [reachBytes]⟩
  · simp [Value.cells] at hcs
    obtain ⟨rfl, rfl, rfl⟩ := hcs
    have hlm : len ≤ m := by rw [hmm]; split <;> omega
    have hz' := hz
    rw [hx] at hz'
    refine ⟨(List.range len).map Sx, ⟨by simp, hl, by simp, ?_⟩, ?_, ?_⟩
    · by_cases h0 : len = 0
      · exact .inl h0
      · right
        obtain ⟨b, off, spot⟩ := a'
        have hc0 := (hc 0 (by omega)).1
        have hspot : spot = none := by simpa [Addr.add] using World.cell?_spot hc0
        subst hspot
        refine ⟨b, off, rfl, ?_, fun i hi => ?_⟩
        · simpa [Addr.add] using World.block_lt_of_cell? W _ hc0
        · have g := (hc i (by omega)).1
          rw [add_none] at g
          rw [g]
          simp [List.getD, hi]
    · intro s hs
      obtain ⟨i, hi, rfl⟩ := List.mem_map.1 hs
      have hi' := List.mem_range.1 hi
      have := hz' (Sx i).data.toList.length (by
        simp only [DataW.weights, Tryz.underlying24]
        refine List.mem_cons_of_mem _ (List.mem_append_left _ (weightsAll_mem (d := .lit (.string (Sx i).data.toList)) (List.mem_map.2 ⟨i, hi, rfl⟩) ?_))
        simp [DataW.weights])
      simpa using this
    · have := hz' ((len + (m - len)) * Tryz.prog.bytesOf 9) (by
        simp [DataW.weights, Tryz.underlying24])
      rw [Tryz.bytesStr] at this
      omega
theorem open_cap {H : Type} {enc : TypeId × Value → H} {W : World} {base fuel : Nat} {spare : Nat → Bool} {held : Bool} {a : Option Addr} {len cap : Nat} {x : DataW H × List MemPlace}
    (hf : DataW.trod enc Tryz.prog W base spare held fuel 24 (Value.slice a len cap).cells.toList = some x) : cap ≤ 9223372036854775807 := by
  rcases open_strs Tryz.underlying24 Tryz.underlying9 Tryz.cellsStr hf with ⟨hcs, _⟩ | ⟨a', len', cap', m, Sx, hcs, _, hl, hm, hmm, hx, hc⟩
  · simp [Value.cells] at hcs
    obtain ⟨rfl, rfl, rfl⟩ := hcs
    omega
  · simp [Value.cells] at hcs
    obtain ⟨rfl, rfl, rfl⟩ := hcs
    unfold maxLen at hm
    exact hm
end Go.Proofs.YtjfjhpakkflceaaGreatDoor.Pa

/- An order and three lines, by value, opened. -/
namespace Go.Proofs.YtjfjhpakkflceaaGreatDoor.Ky
open Go.RowKit Go.ChangeShapes Go.WideShapes

theorem array7 {α : Type} {cs : Array α} (h : cs.size = 7) : ∃ c0 c1 c2 c3 c4 c5 c6, cs = #[c0, c1, c2, c3, c4, c5, c6] := by
  obtain ⟨l⟩ := cs
  match l, h with
  | [c0, c1, c2, c3, c4, c5, c6], _ => exact ⟨c0, c1, c2, c3, c4, c5, c6, rfl⟩
theorem cellsO : Tryz.prog.cellsOf 23 = 7 := by kernel_rfl
theorem cellsB : Tryz.prog.cellsOf 4 = 1 := by kernel_rfl
theorem cellsI : Tryz.prog.cellsOf 3 = 1 := by kernel_rfl
theorem cellsU : Tryz.prog.cellsOf 5 = 1 := by kernel_rfl
theorem u8_back (n : Int) (h : (Lit.int .u8 n).wf = true) : ∃ c : UInt8, n = (c.toNat : Int) := by
  have h2 : 0 ≤ n ∧ n < 256 := by
    simp [Lit.wf] at h
    have h1 : IntKind.u8.min = 0 := by decide
    have h2 : IntKind.u8.max = 255 := by decide
    rw [h1, h2] at h
    omega
  refine ⟨UInt8.ofNat n.toNat, ?_⟩
  simp
  omega
set_option maxRecDepth 100000 in
theorem open_order {H : Type} {enc : TypeId × Value → H} {W : World} {base : Nat} {spare : Nat → Bool} {held : Bool} {r : Reach} {b0 : Nat} {v : Value} {d : DataW H} {p : List MemPlace}
    (hval : Value.okWide Tryz.prog W r b0 23 v) (h : DataW.Trod enc Tryz.prog W base spare held 23 v d p) : ∃ o : Ord, v = ov o := by
  obtain ⟨cs, rfl, hsz⟩ := okWide_struct Tryz.underlying23 hval
  rw [cellsO] at hsz
  obtain ⟨c0, c1, c2, c3, c4, c5, c6, rfl⟩ := array7 hsz
  obtain ⟨fuel, hf⟩ := h
  obtain ⟨xs, n, _, _, hl, hlen, hfl⟩ := DataW.trod_struct Tryz.underlying23 hf
  match xs, hlen with
  | [y0, y1, y2, y3, y4, y5, y6], _ =>
    have h0 := hfl 0 _ rfl
    have h1 := hfl 1 _ rfl
    have h2 := hfl 2 _ rfl
    have h3 := hfl 3 _ rfl
    have h4 := hfl 4 _ rfl
    have h5 := hfl 5 _ rfl
    have h6 := hfl 6 _ rfl
    simp only [Value.cells] at h0 h1 h2 h3 h4 h5 h6
    obtain ⟨a0, e0, _⟩ := DataW.trod_bool Tryz.underlying4 h0
    obtain ⟨a1, e1, _⟩ := DataW.trod_bool Tryz.underlying4 h1
    obtain ⟨a2, e2, _⟩ := DataW.trod_bool Tryz.underlying4 h2
    obtain ⟨a3, e3, _⟩ := DataW.trod_bool Tryz.underlying4 h3
    obtain ⟨a4, e4, _, _⟩ := DataW.trod_int Tryz.underlying3 h4
    obtain ⟨a5, e5, _, _⟩ := DataW.trod_int Tryz.underlying3 h5
    obtain ⟨a6, e6, _, w6⟩ := DataW.trod_int Tryz.underlying5 h6
    obtain ⟨c, rfl⟩ := u8_back a6 w6
    simp [cellsB, cellsI, cellsU] at e0 e1 e2 e3 e4 e5 e6
    subst e0 e1 e2 e3 e4 e5 e6
    exact ⟨⟨a4, a5, c, a0, a2, a1, a3⟩, rfl⟩
end Go.Proofs.YtjfjhpakkflceaaGreatDoor.Ky
