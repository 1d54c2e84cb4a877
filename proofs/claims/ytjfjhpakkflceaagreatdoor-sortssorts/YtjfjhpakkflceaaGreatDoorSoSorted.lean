import Derived.Test.YtjfjhpakkflceaaGreatDoorKyRefOf
import Derived.Deep.RegionHeld3
import Derived.Test.YtjfjhpakkflceaaGreatDoorSoLines
import Derived.Test.YtjfjhpakkflceaaGreatDoorSoList
import Derived.Laws.AppendOwnNone
/- What the document's Number answers. -/
namespace Go.Proofs.YtjfjhpakkflceaaGreatDoor.Ky
open Go.RowKit Go.Shelf

attribute [local go_sem] Oper.semAt_some

/-- the ways of the document's Number -/
def NW (sx sy : Int) (xw xp yw yp : ByteArray) (r : Int) : Prop :=
  (sx < sy ∧ r = -1) ∨ (sy < sx ∧ r = 1) ∨ (sx = sy ∧ (((xw.size : Int) < yw.size ∧ r = -sx) ∨ ((yw.size : Int) < xw.size ∧ r = sx) ∨ ((xw.size : Int) = yw.size ∧ (xw.toList == yw.toList) = false ∧ r = cmpL xw.data.toList yw.data.toList * sx) ∨ (xw = yw ∧ r = cmpL xp.data.toList yp.data.toList * sx)))
theorem nw_of (x y : Dec) (_hx : sgn x) (_hy : sgn y) : NW x.sign y.sign (Ln.bt x.whole) (Ln.bt x.part) (Ln.bt y.whole) (Ln.bt y.part) (cmpD x y) := by
  unfold NW cmpD
  have z1 : (Ln.bt x.whole).size = x.whole.length := rfl
  have z2 : (Ln.bt y.whole).size = y.whole.length := rfl
  by_cases hs : x.sign = y.sign
  · right; right
    refine ⟨hs, ?_⟩
    rw [if_pos hs, z1, z2]
    unfold cmpU lex cmpI
    by_cases h1 : (x.whole.length : Int) < y.whole.length
    · left; simp [h1]
    · by_cases h2 : (y.whole.length : Int) < x.whole.length
      · right; left; simp [h1, h2]
      · right; right
        by_cases h3 : x.whole = y.whole
        · right
          refine ⟨by rw [h3], ?_⟩
          simp only [if_neg h1, if_neg h2, if_true, if_pos ((cmpL_zero _ _).2 h3)]; rfl
        · left
          refine ⟨by omega, ?_, ?_⟩
          · rw [ByteArray.toList_eq, ByteArray.toList_eq]
            show (x.whole == y.whole) = false
            simpa using h3
          · have h4 : cmpL x.whole y.whole ≠ 0 := fun e => h3 ((cmpL_zero _ _).1 e)
            simp only [if_neg h1, if_neg h2, if_true, if_neg h4]; rfl
  · rw [if_neg hs]
    unfold cmpI
    by_cases h1 : x.sign < y.sign
    · left; exact ⟨h1, by rw [if_pos h1]⟩
    · right; left
      have h2 : y.sign < x.sign := by omega
      exact ⟨h2, by rw [if_neg h1, if_pos h2]⟩

theorem three_cells {W : World} {k : Nat} {x y z : Value} {t : TypeId} (h : W.heap[k]? = some (.cells #[x, y, z] t (0, 0))) : W.cell? ⟨k, 0, none⟩ = some x ∧ W.cell? ⟨k, 1, none⟩ = some y ∧ W.cell? ⟨k, 2, none⟩ = some z :=
  ⟨cell_of_row _ _ 0 _ _ _ h, cell_of_row _ _ 1 _ _ _ h, cell_of_row _ _ 2 _ _ _ h⟩

set_option maxRecDepth 100000 in
set_option maxHeartbeats 4000000 in
theorem rnumber_any (a b : ByteArray) (w : World) (ha : a.size ≤ 1073741824) (hb : b.size ≤ 1073741824) :
    Calls Tryz.prog 94 #[.string a, .string b] w fun e w' => e = .returned (.int .i64 (number a.data.toList b.data.toList)) ∧ Below w.heap.size w w' := by
  have R1 := hide (fun w => of_any a w ha)
  have R2 := hide (fun w => of_any b w hb)
  have sx := decOf_sgn a.data.toList
  have hw := hide (nw_of _ _ (decOf_sgn a.data.toList) (decOf_sgn b.data.toList))
  unfold number
  generalize cmpD (decOf a.data.toList) (decOf b.data.toList) = r at *
  unfold sgn at sx
  have SX := hide sx
  clear sx
  generalize (decOf a.data.toList).sign = s1 at *
  generalize (decOf b.data.toList).sign = s2 at *
  generalize Ln.bt (decOf a.data.toList).whole = x1 at *
  generalize Ln.bt (decOf a.data.toList).part = x2 at *
  generalize Ln.bt (decOf b.data.toList).whole = y1 at *
  generalize Ln.bt (decOf b.data.toList).part = y2 at *
  have D1 := hide (fun w => bytes_any x1 y1 w)
  have D2 := hide (fun w => bytes_any x2 y2 w)
  have G1 := hide (good_cmpL.rg x1.data.toList y1.data.toList)
  have G2 := hide (good_cmpL.rg x2.data.toList y2.data.toList)
  unfold NW at hw
  generalize cmpL x1.data.toList y1.data.toList = m1 at *
  generalize cmpL x2.data.toList y2.data.toList = m2 at *
  go_enter Tryz.func94, Tryz.ntmps94
  go_wp2_with fail
  refine (unhide R1 _).mono ?_
  rintro e w1 ⟨rfl, b1⟩
  go_wp2_with fail
  refine (unhide R2 _).mono ?_
  rintro e w2 ⟨rfl, b2⟩
  have r1 := (b2.block _ (by simp)).trans (heap_alloc_new w1 (.cells #[.int .i64 s1, .string x1, .string x2] 192))
  have hB0 : Below w.heap.size w (w1.alloc (.cells #[.int .i64 s1, .string x1, .string x2] 192)) := b1.alloc b1.size _
  have hB := hB0.trans (b2.mono hB0.size)
  have hB2 := hide (hB.alloc hB.size (.cells #[.int .i64 s2, .string y1, .string y2] 192))
  have r2 := (Below.heap_alloc w2 (.cells #[.int .i64 s2, .string y1, .string y2] 192) _ (Array.getElem?_eq_some_iff.1 r1).1).trans r1
  obtain ⟨q0, q1, q2⟩ := three_cells r2
  clear r1 r2 hB0 hB b1 b2 R1 R2
  have hs := unhide SX
  have hv := unhide hw
  clear SX hw
  rcases hv with ⟨h1, rfl⟩ | ⟨h1, rfl⟩ | ⟨rfl, ⟨h1, rfl⟩ | ⟨h1, rfl⟩ | ⟨h1, h2, rfl⟩ | ⟨rfl, rfl⟩⟩
  · clear hs
    go_wp2_with fail
    go_ret
    exact ⟨rfl, unhide hB2⟩
  · clear hs
    go_wp2_with fail
    go_ret
    exact ⟨rfl, unhide hB2⟩
  · rcases hs with rfl | rfl | rfl
    all_goals
      go_wp2_with fail
      go_ret
      exact ⟨rfl, unhide hB2⟩
  · rcases hs with rfl | rfl | rfl
    all_goals
      go_wp2_with fail
      go_ret
      exact ⟨rfl, unhide hB2⟩
  · have g := unhide G1
    clear G1 G2
    rcases hs with rfl | rfl | rfl <;> rcases g with rfl | rfl | rfl
    all_goals
      go_wp2_with fail
      refine (unhide D1 _).mono ?_
      rintro e w3 ⟨rfl, hw3⟩
      rw [hw3]
      go_wp2_with fail
      go_ret
      exact ⟨rfl, unhide hB2⟩
  · have g := unhide G2
    clear G1 G2
    rcases hs with rfl | rfl | rfl <;> rcases g with rfl | rfl | rfl
    all_goals
      go_wp2_with fail
      refine (unhide D2 _).mono ?_
      rintro e w3 ⟨rfl, hw3⟩
      rw [hw3]
      go_wp2_with fail
      go_ret
      exact ⟨rfl, unhide hB2⟩
end Go.Proofs.YtjfjhpakkflceaaGreatDoor.Ky

/- What the document's Compare answers. -/
namespace Go.Proofs.YtjfjhpakkflceaaGreatDoor.Ky
open Go.RowKit Go.Shelf

attribute [local go_sem] Oper.semAt_some

/-- what is held while keys are made fit -/
def Held (w : World) (o : Ord) (W : World) : Prop := OR W w.heap.size o ∧ Below w.heap.size w W
theorem Held.step {w W W' : World} {o : Ord} (h : Held w o W) (b : Below W.heap.size W W') : Held w o W' := ⟨h.1.below b, h.2.trans (b.mono h.2.size)⟩
def S7 (w : World) (o : Ord) (bn : Bool) (W : World) : Prop :=
  W.cell? ⟨w.heap.size, 0, none⟩ = some (.bool bn) ∧ W.cell? ⟨w.heap.size, 1, none⟩ = some (.bool o.fold) ∧ W.cell? ⟨w.heap.size, 2, none⟩ = some (.bool o.bls) ∧ W.cell? ⟨w.heap.size, 3, none⟩ = some (.bool o.rev) ∧ W.cell? ⟨w.heap.size, 4, none⟩ = some (.int .i64 o.fr) ∧ W.cell? ⟨w.heap.size, 5, none⟩ = some (.int .i64 o.«to») ∧ W.cell? ⟨w.heap.size, 6, none⟩ = some (.int .u8 (o.sep.toNat : Int)) ∧ Hid (Held w o W)
theorem S7.of {w W : World} {o : Ord} {bn : Bool} (hb : bn = o.num) (h : Held w o W) : S7 w o bn W := by
  obtain ⟨h0, h1, h2, h3, h4, h5, h6⟩ := h.1.cells
  exact ⟨by rw [hb]; exact h0, h1, h2, h3, h4, h5, h6, h⟩
theorem S7.held {w W : World} {o : Ord} {bn : Bool} (h : S7 w o bn W) : Held w o W := unhide h.2.2.2.2.2.2.2
theorem len_key (o : Ord) (s : ByteArray) : (Ln.bt (key o s.data.toList)).size ≤ s.size := key_len o s.data.toList

set_option maxRecDepth 100000 in
set_option maxHeartbeats 1000000 in
theorem rcompare_any (o : Ord) (a b : ByteArray) (w : World) (ha : a.size ≤ 1073741000) (hb : b.size ≤ 1073741000) :
    Calls Tryz.prog 36 #[ov o, .string a, .string b] w fun e w' => e = .returned (.int .i64 (compare o a.data.toList b.data.toList)) ∧ Below w.heap.size w w' := by
  have CK := hide (fun W => rcheck_any o W)
  have K1 := hide (fun W => rkey_any o a W ha)
  have K2 := hide (fun W => rkey_any o b W hb)
  have z1 := len_key o a
  have z2 := len_key o b
  have RN := hide (fun W => rnumber_any (Ln.bt (key o a.data.toList)) (Ln.bt (key o b.data.toList)) W (by omega) (by omega))
  have F1 := hide (fun W => rfit_any o (Ln.bt (key o a.data.toList)) W (by omega))
  have F2 := hide (fun W => rfit_any o (Ln.bt (key o b.data.toList)) W (by omega))
  have hcmp : compare o a.data.toList b.data.toList = if okO o = false then 0 else if o.rev = true then -(if o.num = true then number (Ln.bt (key o a.data.toList)).data.toList (Ln.bt (key o b.data.toList)).data.toList else cmpL (fit o (Ln.bt (key o a.data.toList)).data.toList) (fit o (Ln.bt (key o b.data.toList)).data.toList)) else (if o.num = true then number (Ln.bt (key o a.data.toList)).data.toList (Ln.bt (key o b.data.toList)).data.toList else cmpL (fit o (Ln.bt (key o a.data.toList)).data.toList) (fit o (Ln.bt (key o b.data.toList)).data.toList)) := rfl
  rw [hcmp]
  have BY := hide (fun W => bytes_any (Ln.bt (fit o (Ln.bt (key o a.data.toList)).data.toList)) (Ln.bt (fit o (Ln.bt (key o b.data.toList)).data.toList)) W)
  have e3 : ∀ l : Bs, (Ln.bt l).data.toList = l := fun _ => rfl
  simp only [e3] at BY
  have G1 := hide (good_number.rg (Ln.bt (key o a.data.toList)).data.toList (Ln.bt (key o b.data.toList)).data.toList)
  have G2 := hide (good_cmpL.rg (fit o (key o a.data.toList)) (fit o (key o b.data.toList)))
  simp only [e3] at RN F1 F2 G1 ⊢
  generalize number (key o a.data.toList) (key o b.data.toList) = n1 at *
  generalize cmpL (fit o (key o a.data.toList)) (fit o (key o b.data.toList)) = n2 at *
  generalize Ln.bt (fit o (key o a.data.toList)) = X1 at *
  generalize Ln.bt (fit o (key o b.data.toList)) = Y1 at *
  generalize Ln.bt (key o a.data.toList) = X at *
  generalize Ln.bt (key o b.data.toList) = Y at *
  unfold ov at CK K1 K2 F1 F2 ⊢
  clear hcmp e3 ha hb z1 z2
  have H0 : Hid (Held w o (w.alloc (.cells #[.bool o.num, .bool o.fold, .bool o.bls, .bool o.rev, .int .i64 o.fr, .int .i64 o.«to», .int .u8 (o.sep.toNat : Int)] 23))) := ⟨OR.new w o, (Below.refl _ _).alloc (Nat.le_refl _) _⟩
  obtain ⟨ok, hok⟩ : ∃ ok, ok = okO o := ⟨_, rfl⟩
  rw [← hok] at CK ⊢
  clear hok
  cases ok
  · rw [if_pos rfl]
    go_enter Tryz.func36, Tryz.ntmps36
    go_wp2_with fail
    refine (unhide CK _).mono ?_
    rintro e w1 ⟨rfl, b1⟩
    go_wp2_with fail
    go_ret
    exact ⟨rfl, ((unhide H0).step b1).2⟩
  · rw [if_neg (by simp)]
    obtain ⟨r, hr⟩ : ∃ r, r = (if o.rev = true then -(if o.num = true then n1 else n2) else if o.num = true then n1 else n2) := ⟨_, rfl⟩
    rw [← hr]
    have HR := hide hr
    clear hr
    go_enter Tryz.func36, Tryz.ntmps36
    go_wp2_with fail
    refine (unhide CK _).mono ?_
    rintro e w1 ⟨rfl, b1⟩
    have H1 := hide ((unhide H0).step b1)
    clear H0 b1 CK
    obtain ⟨d0, d1, d2, d3, d4, d5, d6⟩ := (unhide H1).1.cells
    go_wp2_with fail
    refine (unhide K1 _).mono ?_
    rintro e w2 ⟨rfl, b2⟩
    have H2 := hide ((unhide H1).step b2)
    clear H1 b2 K1 d0 d1 d2 d3 d4 d5 d6
    obtain ⟨d0, d1, d2, d3, d4, d5, d6⟩ := (unhide H2).1.cells
    go_wp2_with fail
    refine (unhide K2 _).mono ?_
    rintro e w3 ⟨rfl, b3⟩
    have H3 := hide ((unhide H2).step b3)
    clear H2 b3 K2 d0 d1 d2 d3 d4 d5 d6
    obtain ⟨d0, d1, d2, d3, d4, d5, d6⟩ := (unhide H3).1.cells
    obtain ⟨bn, hbn⟩ : ∃ b, b = o.num := ⟨_, rfl⟩
    obtain ⟨br, hbr⟩ : ∃ b, b = o.rev := ⟨_, rfl⟩
    rw [← hbn, ← hbr] at HR
    have HBN := hide hbn.symm
    have HBR := hide hbr.symm
    clear hbn hbr
    rw [unhide HBN] at d0
    have FF1 := F1
    have FF2 := F2
    rw [unhide HBN] at FF1 FF2
    obtain ⟨n, hn⟩ : ∃ n, n = if bn = true then n1 else n2 := ⟨_, rfl⟩
    have HN := hide hn
    rw [← hn] at HR
    clear hn F1 F2
    have SS : Hid (∀ W, Held w o W → S7 w o bn W) := fun W h => S7.of (unhide HBN).symm h
    have KF1 : Hid (∀ W, S7 w o bn W → Calls Tryz.prog 96 #[.agg #[.bool bn, .bool o.fold, .bool o.bls, .bool o.rev, .int .i64 o.fr, .int .i64 o.«to», .int .u8 (o.sep.toNat : Int)], .string X] W fun e w' => e = .returned (.string X1) ∧ S7 w o bn w') := fun W h => (unhide FF1 W).mono fun e w' q => ⟨q.1, unhide SS _ (h.held.step q.2)⟩
    have KF2 : Hid (∀ W, S7 w o bn W → Calls Tryz.prog 96 #[.agg #[.bool bn, .bool o.fold, .bool o.bls, .bool o.rev, .int .i64 o.fr, .int .i64 o.«to», .int .u8 (o.sep.toNat : Int)], .string Y] W fun e w' => e = .returned (.string Y1) ∧ S7 w o bn w') := fun W h => (unhide FF2 W).mono fun e w' q => ⟨q.1, unhide SS _ (h.held.step q.2)⟩
    have KB : Hid (∀ W, S7 w o bn W → Calls Tryz.prog 95 #[.string X1, .string Y1] W fun e w' => e = .returned (.int .i64 n2) ∧ S7 w o bn w') := fun W h => (unhide BY W).mono fun e w' q => ⟨q.1, by rw [q.2]; exact h⟩
    clear FF1 FF2 BY
    go_upto_if 20 with fail
    go_cut [9] (fun v wx => v = .int .i64 n ∧ Hid (Held w o wx))
    case first =>
      have hn := unhide HN
      clear HN HR G1 G2 HBR
      cases bn
      · obtain rfl : n = n2 := by simpa using hn
        have hS := unhide SS _ (unhide H3)
        have hSd := unhide SS w3.drew ⟨(unhide H3).1, (unhide H3).2.drew⟩
        clear hn HBN RN SS d0 d1 d2 d3 d4 d5 d6 H3
        unfold S7 at hS hSd KF1 KF2 KB
        go_wp2_with fail
        go_region_held3 (fun w' => w'.cell? ⟨w.heap.size, 0, none⟩ = some (.bool false) ∧ w'.cell? ⟨w.heap.size, 1, none⟩ = some (.bool o.fold) ∧ w'.cell? ⟨w.heap.size, 2, none⟩ = some (.bool o.bls) ∧ w'.cell? ⟨w.heap.size, 3, none⟩ = some (.bool o.rev) ∧ w'.cell? ⟨w.heap.size, 4, none⟩ = some (.int .i64 o.fr) ∧ w'.cell? ⟨w.heap.size, 5, none⟩ = some (.int .i64 o.«to») ∧ w'.cell? ⟨w.heap.size, 6, none⟩ = some (.int .u8 (o.sep.toNat : Int)) ∧ Hid (Held w o w')) (first | assumption | go_keep)
          (first | (with_reducible refine (unhide KF1 _ (by assumption)).mono ?_; rintro e w' ⟨rfl, hS1⟩) | (with_reducible refine (unhide KF2 _ (by assumption)).mono ?_; rintro e w' ⟨rfl, hS2⟩) | (with_reducible refine (unhide KB _ (by assumption)).mono ?_; rintro e w' ⟨rfl, hS3⟩))
        go_wp2_with fail
        go_meet
        exact ⟨rfl, hS3.2.2.2.2.2.2.2⟩
      · obtain rfl : n = n1 := by simpa using hn
        clear hn HBN KF1 KF2 KB SS
        go_wp2_with fail
        refine (unhide RN _).mono ?_
        rintro e w4 ⟨rfl, b4⟩
        have H4 := hide ((unhide H3).step b4)
        clear RN b4 H3
        go_wp2_with fail
        go_meet
        exact ⟨rfl, H4⟩
    case rest =>
      obtain ⟨rfl, H5⟩ := hcut
      have hg : Hid (n = -1 ∨ n = 0 ∨ n = 1) := by
        show _ ∨ _
        rw [unhide HN]
        cases bn
        · exact unhide G2
        · exact unhide G1
      clear d0 d1 d2 d3 d4 d5 d6
      obtain ⟨d0, d1, d2, d3, d4, d5, d6⟩ := (unhide H5).1.cells
      rw [unhide HBR] at d3
      have hr := unhide HR
      have hg2 := unhide hg
      have hl : -1 ≤ n ∧ n ≤ 1 := by omega
      clear hg2 hg HR HBR HBN HN G1 G2 KF1 KF2 KB SS RN H3
      cases br
      · obtain rfl : r = n := by simpa using hr
        clear hr
        go_wp2_with fail
        go_ret
        exact ⟨rfl, (unhide H5).2⟩
      · obtain rfl : r = -n := by simpa using hr
        clear hr
        go_wp2_with fail
        go_ret
        exact ⟨rfl, (unhide H5).2⟩
end Go.Proofs.YtjfjhpakkflceaaGreatDoor.Ky

/- What the document's ahead and before answer. -/
namespace Go.Proofs.YtjfjhpakkflceaaGreatDoor.So
open Go.RowKit Go.Shelf Ky

attribute [local go_sem] Oper.semAt_some

set_option maxRecDepth 100000 in
set_option maxHeartbeats 600000 in
theorem rahead_any (o : Ord) (a b : ByteArray) (w : World) (ha : a.size ≤ 1073741000) (hb : b.size ≤ 1073741000) :
    Calls Tryz.prog 124 #[ov o, .string a, .string b] w fun e w' => e = .returned (.bool (decide (cB o false a b < 0))) ∧ Below w.heap.size w w' := by
  have C := hide (fun W => rcompare_any o a b W ha hb)
  have h1 := less_eq a.data.toList b.data.toList
  have h2 : (a.data.toList == b.data.toList) = decide (cmpL a.data.toList b.data.toList = 0) := by
    rw [Bool.eq_iff_iff]; simp [cmpL_zero]
  have hr := good_cmpL.rg a.data.toList b.data.toList
  have hrc := (good_compare o).rg a.data.toList b.data.toList
  have hres : cB o false a b = if Ky.compare o a.data.toList b.data.toList = 0 then (if o.rev = true then -cmpL a.data.toList b.data.toList else cmpL a.data.toList b.data.toList) else Ky.compare o a.data.toList b.data.toList := by
    unfold cB cmpA Ky.lex
    simp only [Bool.false_eq_true, if_false]
    cases o.rev <;> rfl
  rw [hres]
  clear hres
  rw [← Go.ByteArray.toList_eq, ← Go.ByteArray.toList_eq] at h1 h2 hr hrc C ⊢
  generalize Ky.compare o a.toList b.toList = n at *
  generalize cmpL a.toList b.toList = x at *
  obtain ⟨br, hbr⟩ : ∃ r, r = o.rev := ⟨_, rfl⟩
  rw [← hbr]
  have HBR := hide hbr.symm
  clear hbr
  unfold ov at C ⊢
  have H0 : Hid (Held w o (w.alloc (.cells #[.bool o.num, .bool o.fold, .bool o.bls, .bool o.rev, .int .i64 o.fr, .int .i64 o.«to», .int .u8 (o.sep.toNat : Int)] 23))) := ⟨OR.new w o, (Below.refl _ _).alloc (Nat.le_refl _) _⟩
  have H1 := hide h1
  have H2 := hide h2
  have HR := hide hr
  clear h1 h2 hr
  go_enter Tryz.func124, Tryz.ntmps124
  go_wp2_with fail
  refine (unhide C _).mono ?_
  rintro e w1 ⟨rfl, b1⟩
  have H3 := hide ((unhide H0).step b1)
  clear b1 H0 C
  obtain ⟨d0, d1, d2, d3, d4, d5, d6⟩ := (unhide H3).1.cells
  rw [unhide HBR] at d3
  clear HBR
  rcases hrc with rfl | rfl | rfl
  · clear H1 H2 HR
    go_wp2_with fail
    go_ret
    exact ⟨rfl, (unhide H3).2⟩
  · have h1 := unhide H1
    have h2 := unhide H2
    have hr := unhide HR
    clear H1 H2 HR
    cases br
    · rcases hr with rfl | rfl | rfl
      all_goals
        simp only [Int.reduceNeg, Int.reduceEq, decide_true, decide_false] at h1 h2
        go_wp2_with fail
        go_ret
        exact ⟨rfl, (unhide H3).2⟩
    · rcases hr with rfl | rfl | rfl
      all_goals
        simp only [Int.reduceNeg, Int.reduceEq, decide_true, decide_false] at h1 h2
        go_wp2_with fail
        go_ret
        exact ⟨rfl, (unhide H3).2⟩
  · clear H1 H2 HR
    go_wp2_with fail
    go_ret
    exact ⟨rfl, (unhide H3).2⟩

set_option maxRecDepth 100000 in
set_option maxHeartbeats 600000 in
theorem rbefore_any (o : Ord) (u : Bool) (a b : ByteArray) (w : World) (ha : a.size ≤ 1073741000) (hb : b.size ≤ 1073741000) :
    Calls Tryz.prog 135 #[ov o, .bool u, .string a, .string b] w fun e w' => e = .returned (.bool (decide (cB o u a b < 0))) ∧ Below w.heap.size w w' := by
  have C1 := hide (fun W => rcompare_any o a b W ha hb)
  have C2 := hide (fun W => rahead_any o a b W ha hb)
  have hrc := (good_compare o).rg a.data.toList b.data.toList
  have e1 : cB o true a b = Ky.compare o a.data.toList b.data.toList := rfl
  unfold ov at C1 C2 ⊢
  have H0 : Hid (Held w o (w.alloc (.cells #[.bool o.num, .bool o.fold, .bool o.bls, .bool o.rev, .int .i64 o.fr, .int .i64 o.«to», .int .u8 (o.sep.toNat : Int)] 23))) := ⟨OR.new w o, (Below.refl _ _).alloc (Nat.le_refl _) _⟩
  cases u
  · clear hrc e1 C1
    generalize decide (cB o false a b < 0) = r at *
    go_enter Tryz.func135, Tryz.ntmps135
    go_wp2_with fail
    refine (unhide C2 _).mono ?_
    rintro e w1 ⟨rfl, b1⟩
    have H3 := hide ((unhide H0).step b1)
    clear b1 H0 C2
    go_wp2_with fail
    go_ret
    exact ⟨rfl, (unhide H3).2⟩
  · rw [e1]
    clear e1 C2
    generalize Ky.compare o a.data.toList b.data.toList = n at *
    rcases hrc with rfl | rfl | rfl
    all_goals
      go_enter Tryz.func135, Tryz.ntmps135
      go_wp2_with fail
      refine (unhide C1 _).mono ?_
      rintro e w1 ⟨rfl, b1⟩
      have H3 := hide ((unhide H0).step b1)
      clear b1 H0 C1
      go_wp2_with fail
      go_ret
      exact ⟨rfl, (unhide H3).2⟩
end Go.Proofs.YtjfjhpakkflceaaGreatDoor.So

/- What the document's merged answers. -/
namespace Go.Proofs.YtjfjhpakkflceaaGreatDoor.So
open Go.RowKit Go.Shelf Ky
open Pa (Tx)

attribute [local go_sem] Oper.semAt_some

/-- how far merging has come -/
def Mgd (c : ByteArray → ByteArray → Int) (A B : Ls) (i k : Nat) (O : Ls) : Prop := mrg c A B = O ++ mrg c (A.drop i) (B.drop k) ∧ O.length = i + k
theorem Mgd.left {c : ByteArray → ByteArray → Int} {A B : Ls} {i k : Nat} {O : Ls} (h : Mgd c A B i k O) (hi : i < A.length) (hk : k < B.length) (hc : ¬ c (B.getD k ByteArray.empty) (A.getD i ByteArray.empty) < 0) : Mgd c A B (i + 1) k (O ++ [A.getD i ByteArray.empty]) := by
  refine ⟨?_, by rw [List.length_append, h.2, List.length_singleton]; omega⟩
  rw [h.1, drop_at hi, drop_at hk, mrg_cons, if_neg hc]; simp
theorem Mgd.right {c : ByteArray → ByteArray → Int} {A B : Ls} {i k : Nat} {O : Ls} (h : Mgd c A B i k O) (hk : k < B.length) (hc : i < A.length → c (B.getD k ByteArray.empty) (A.getD i ByteArray.empty) < 0) : Mgd c A B i (k + 1) (O ++ [B.getD k ByteArray.empty]) := by
  refine ⟨?_, by rw [List.length_append, h.2, List.length_singleton]; omega⟩
  rw [h.1, drop_at hk]
  by_cases hi : i < A.length
  · rw [drop_at hi, mrg_cons, if_pos (hc hi)]; simp
  · rw [List.drop_eq_nil_of_le (by omega), mrg_nil, mrg_nil]; simp
theorem Mgd.done {c : ByteArray → ByteArray → Int} {A B : Ls} {i k : Nat} {O : Ls} (h : Mgd c A B i k O) (hk : B.length ≤ k) : mrg c A B = O ++ A.drop i := by
  rw [h.1, List.drop_eq_nil_of_le hk, mrg_nil']

set_option maxRecDepth 100000 in
set_option maxHeartbeats 1000000 in
theorem merged_any (o : Ky.Ord) (u : Bool) (A B : Ls) (a b : Option Addr) (la ca lb cb : Nat) (w : World) (hA : Tx w a la ca A) (hB : Tx w b lb cb B) (hl : la + lb ≤ 16777216) (hca : ca ≤ 9223372036854775807)
    (sA : ∀ s ∈ A, s.size ≤ 1073741000) (sB : ∀ s ∈ B, s.size ≤ 1073741000) :
    Calls Tryz.prog 92 #[ov o, .bool u, .slice a la ca, .slice b lb cb] w fun e w' => ∃ v, e = .returned v ∧ w'.ownsRow w.heap.size 9 1 v (mrg (cB o u) A B).length (strs (mrg (cB o u) A B)) ∧ Below w.heap.size w w' := by
  obtain ⟨i0, hi, hz0, hz1, hz2⟩ := info_parts Pa.Tryz.infoStr
  obtain ⟨w0, hw0⟩ : ∃ w0, w0 = w.alloc (.cells #[.bool o.num, .bool o.fold, .bool o.bls, .bool o.rev, .int .i64 o.fr, .int .i64 o.«to», .int .u8 (o.sep.toNat : Int)] 23) := ⟨_, rfl⟩
  have H0 : Hid (Held w o w0) := by show Held _ _ _; rw [hw0]; exact ⟨OR.new w o, (Below.refl _ _).alloc (Nat.le_refl _) _⟩
  have TA := hide (hA.below (unhide H0).2)
  have TB := hide (hB.below (unhide H0).2)
  have hla := hA.len
  have hlb := hB.len
  have hac := hA.le
  have C : Hid (∀ x y, x ∈ B → y ∈ A → ∀ W, Calls Tryz.prog 135 #[ov o, .bool u, .string x, .string y] W fun e w' => e = .returned (.bool (decide (cB o u x y < 0))) ∧ Below W.heap.size W w') := fun x y hx hy W => rbefore_any o u x y W (sB x hx) (sA y hy)
  unfold ov at C ⊢
  have HLA := hide hla
  have HLB := hide hlb
  clear hA hB sA sB hla hlb
  go_enter Tryz.func92, Tryz.ntmps92
  go_upto_block 0 with fail
  rw [← hw0]
  clear hw0
  go_cut [9, 10, 11] (fun v9 v10 _ wx => ∃ (i : Nat) (O : Ls), i ≤ la ∧ v10 = .int .i64 (i : Int) ∧ Hid (Mgd (cB o u) A B i lb O) ∧ Hid (wx.ownsRow w0.heap.size 9 1 v9 O.length (strs O)) ∧ Hid (Below w0.heap.size w0 wx))
  case first =>
    go_wp2_with fail
    go_loopg [9, 10, 11] lb (fun g v9 v10 v11 wr => ∃ (i k : Nat) (O : Ls), i ≤ la ∧ k ≤ lb ∧ g = lb - k ∧ v10 = .int .i64 (i : Int) ∧ v11 = .int .i64 (k : Int) ∧ Hid (Mgd (cB o u) A B i k O) ∧ Hid (wr.ownsRow w0.heap.size 9 1 v9 O.length (strs O)) ∧ Hid (Below w0.heap.size w0 wr))
    case atStart => exact ⟨0, 0, [], Nat.zero_le _, Nat.zero_le _, rfl, rfl, rfl, ⟨by simp, rfl⟩, World.ownsRow_nil _ _ _ _, Below.refl _ _⟩
    case round =>
      obtain ⟨i, k, O, hil, hkl, rfl, rfl, rfl, hM, hO, hBl⟩ := hrel
      obtain ⟨s0, s1, s2, hv0⟩ := sl_of_own (unhide hO)
      subst hv0
      by_cases hlt : k < lb
      · have hlt' : (k : Int) < (lb : Int) := by omega
        go_upto_block 2 with fail
        obtain ⟨gb, ob, hb0, hgb, cb0⟩ := tx_at (unhide TB) hlt
        subst hb0
        have hkB : k < B.length := by rw [unhide HLB]; exact hlt
        have hyB := mem_at hkB
        obtain ⟨y, hy⟩ : ∃ y, y = B.getD k ByteArray.empty := ⟨_, rfl⟩
        rw [← hy] at cb0 hyB
        have CB0 := hide cb0
        have HY := hide hy
        clear cb0 hy
        go_cut [9, 10] (fun v9 v10 wx => ∃ (j : Nat) (P : Ls), j ≤ la ∧ v10 = .int .i64 (j : Int) ∧ Hid (Mgd (cB o u) A B j k P) ∧ Hid (j < A.length → cB o u y (A.getD j ByteArray.empty) < 0) ∧ Hid (wx.ownsRow w0.heap.size 9 1 v9 P.length (strs P)) ∧ Hid (Below w0.heap.size w0 wx))
        case first =>
          go_wp2_with fail
          go_loopg [9, 10] (la - i) (fun g v9 v10 wr2 => ∃ (j : Nat) (P : Ls), j ≤ la ∧ g = la - j ∧ v10 = .int .i64 (j : Int) ∧ Hid (Mgd (cB o u) A B j k P) ∧ Hid (wr2.ownsRow w0.heap.size 9 1 v9 P.length (strs P)) ∧ Hid (Below w0.heap.size w0 wr2))
          case atStart => exact ⟨i, O, hil, rfl, rfl, hM, hO, hBl⟩
          case round =>
            clear hM hO hBl
            obtain ⟨j, P, hjl, rfl, rfl, hM, hO, hBl⟩ := hrel
            obtain ⟨q0, q1, q2, hv0⟩ := sl_of_own (unhide hO)
            subst hv0
            have hPl := (unhide hM).2
            by_cases hjt : j < la
            · have hjt' : (j : Int) < (la : Int) := by omega
              obtain ⟨ga, oa, ha0, hga, ca0⟩ := tx_at (unhide TA) hjt
              subst ha0
              have hjA : j < A.length := by rw [unhide HLA]; exact hjt
              have hxA := mem_at hjA
              have hnx := (unhide hM).left hjA hkB
              rw [← unhide HY] at hnx
              have HNX := hide hnx
              obtain ⟨x, hx⟩ : ∃ x, x = A.getD j ByteArray.empty := ⟨_, rfl⟩
              rw [← hx] at ca0 hxA HNX
              have HX := hide hx
              have CA0 := hide ca0
              clear hx ca0 hnx
              have SS : Hid (∀ W, Hid (W.ownsRow w0.heap.size 9 1 (.slice q0 q1 q2) P.length (strs P) ∧ Below w0.heap.size w0 W) → W.cell? ⟨w.heap.size, 0, none⟩ = some (.bool o.num) ∧ W.cell? ⟨w.heap.size, 1, none⟩ = some (.bool o.fold) ∧ W.cell? ⟨w.heap.size, 2, none⟩ = some (.bool o.bls) ∧ W.cell? ⟨w.heap.size, 3, none⟩ = some (.bool o.rev) ∧ W.cell? ⟨w.heap.size, 4, none⟩ = some (.int .i64 o.fr) ∧ W.cell? ⟨w.heap.size, 5, none⟩ = some (.int .i64 o.«to») ∧ W.cell? ⟨w.heap.size, 6, none⟩ = some (.int .u8 (o.sep.toNat : Int)) ∧ W.cell? ⟨gb, ob + k, none⟩ = some (.string y) ∧ W.cell? ⟨ga, oa + j, none⟩ = some (.string x) ∧ Hid (W.ownsRow w0.heap.size 9 1 (.slice q0 q1 q2) P.length (strs P) ∧ Below w0.heap.size w0 W)) := fun W h => by
                obtain ⟨e0, e1, e2, e3, e4, e5, e6⟩ := ((unhide H0).step (unhide h).2).1.cells
                exact ⟨e0, e1, e2, e3, e4, e5, e6, ((unhide h).2.cell (p := ⟨gb, ob + k, none⟩) hgb).trans (unhide CB0), ((unhide h).2.cell (p := ⟨ga, oa + j, none⟩) hga).trans (unhide CA0), h⟩
              have K0 := unhide C y x hyB hxA
              obtain ⟨r, hr⟩ : ∃ r, r = decide (cB o u y x < 0) := ⟨_, rfl⟩
              rw [← hr] at K0
              have K : Hid (∀ W, W.cell? ⟨w.heap.size, 0, none⟩ = some (.bool o.num) ∧ W.cell? ⟨w.heap.size, 1, none⟩ = some (.bool o.fold) ∧ W.cell? ⟨w.heap.size, 2, none⟩ = some (.bool o.bls) ∧ W.cell? ⟨w.heap.size, 3, none⟩ = some (.bool o.rev) ∧ W.cell? ⟨w.heap.size, 4, none⟩ = some (.int .i64 o.fr) ∧ W.cell? ⟨w.heap.size, 5, none⟩ = some (.int .i64 o.«to») ∧ W.cell? ⟨w.heap.size, 6, none⟩ = some (.int .u8 (o.sep.toNat : Int)) ∧ W.cell? ⟨gb, ob + k, none⟩ = some (.string y) ∧ W.cell? ⟨ga, oa + j, none⟩ = some (.string x) ∧ Hid (W.ownsRow w0.heap.size 9 1 (.slice q0 q1 q2) P.length (strs P) ∧ Below w0.heap.size w0 W) → Calls Tryz.prog 135 #[.agg #[.bool o.num, .bool o.fold, .bool o.bls, .bool o.rev, .int .i64 o.fr, .int .i64 o.«to», .int .u8 (o.sep.toNat : Int)], .bool u, .string y, .string x] W fun e w' => e = .returned (.bool r) ∧ w'.cell? ⟨w.heap.size, 0, none⟩ = some (.bool o.num) ∧ w'.cell? ⟨w.heap.size, 1, none⟩ = some (.bool o.fold) ∧ w'.cell? ⟨w.heap.size, 2, none⟩ = some (.bool o.bls) ∧ w'.cell? ⟨w.heap.size, 3, none⟩ = some (.bool o.rev) ∧ w'.cell? ⟨w.heap.size, 4, none⟩ = some (.int .i64 o.fr) ∧ w'.cell? ⟨w.heap.size, 5, none⟩ = some (.int .i64 o.«to») ∧ w'.cell? ⟨w.heap.size, 6, none⟩ = some (.int .u8 (o.sep.toNat : Int)) ∧ w'.cell? ⟨gb, ob + k, none⟩ = some (.string y) ∧ w'.cell? ⟨ga, oa + j, none⟩ = some (.string x) ∧ Hid (w'.ownsRow w0.heap.size 9 1 (.slice q0 q1 q2) P.length (strs P) ∧ Below w0.heap.size w0 w')) := fun W h => (K0 W).mono fun e w' q => ⟨q.1, unhide SS w' ⟨own_below (unhide h.2.2.2.2.2.2.2.2.2).1 q.2, (unhide h.2.2.2.2.2.2.2.2.2).2.trans (q.2.mono (unhide h.2.2.2.2.2.2.2.2.2).2.size)⟩⟩
              have hS := unhide SS wr ⟨unhide hO, unhide hBl⟩
              have hSd := unhide SS wr.drew ⟨(unhide hO).drew, (unhide hBl).drew⟩
              have HR := hide hr
              clear K0 hr SS hO hBl
              go_wp2_with fail
              go_region_held3 (fun w' => w'.cell? ⟨w.heap.size, 0, none⟩ = some (.bool o.num) ∧ w'.cell? ⟨w.heap.size, 1, none⟩ = some (.bool o.fold) ∧ w'.cell? ⟨w.heap.size, 2, none⟩ = some (.bool o.bls) ∧ w'.cell? ⟨w.heap.size, 3, none⟩ = some (.bool o.rev) ∧ w'.cell? ⟨w.heap.size, 4, none⟩ = some (.int .i64 o.fr) ∧ w'.cell? ⟨w.heap.size, 5, none⟩ = some (.int .i64 o.«to») ∧ w'.cell? ⟨w.heap.size, 6, none⟩ = some (.int .u8 (o.sep.toNat : Int)) ∧ w'.cell? ⟨gb, ob + k, none⟩ = some (.string y) ∧ w'.cell? ⟨ga, oa + j, none⟩ = some (.string x) ∧ Hid (w'.ownsRow w0.heap.size 9 1 (.slice q0 q1 q2) P.length (strs P) ∧ Below w0.heap.size w0 w')) (first | assumption | go_keep)
                (with_reducible refine (unhide K _ (by assumption)).mono ?_; rintro e w' ⟨rfl, hS1⟩)
              obtain ⟨c0, c1, c2, c3, c4, c5, c6, cy, cx, hSt⟩ := hS1
              clear hS hSd K c0 c1 c2 c3 c4 c5 c6 cy
              have hr := unhide HR
              cases r
              · have hM2 := hide (unhide HNX (by simpa using hr))
                have hO2 := hide (unhide hSt).1
                have hB2 := hide (unhide hSt).2
                have hsz := (unhide hSt).2.size
                clear hSt hr HR HNX
                go_wp2_with (at_builtin; refine wpList_append_own _ rfl _ _ 24 rfl w0.heap.size 9 i0 _ 1 16 Tryz.underlying24 hi hz0 hz1 hz2 rfl (by decide) _ _ _ rfl ((unhide hO2).alloc _) ⟨w'.heap.size, 0, none⟩ 1 1 [.string x] rfl rfl (one_new2 _ _ _) (one_one2 _) (by unfold maxLen; omega) (by omega) (by simp; omega) ?_)
                intro v1 w1 hO1 hg1 _
                have hB1 : Hid (Below w0.heap.size w0 w1) := ((unhide hB2).alloc hsz _).grown hg1 (by simp; omega) (fun z ez => ((unhide hO2).lt z ez).1)
                have hO3 : Hid (w1.ownsRow w0.heap.size 9 1 v1 (P ++ [x]).length (strs (P ++ [x]))) := by
                  show w1.ownsRow _ _ _ _ _ _
                  rw [strs_snoc, List.length_append, hPl]
                  exact hO1
                obtain ⟨y0, y1, y2, hv1⟩ := sl_of_own hO1
                subst hv1
                clear hO1 hg1 hO2 hB2
                go_wp2_with fail
                go_roundg (la - (j + 1))
                case measure => omega
                case rel => exact ⟨j + 1, _, by omega, rfl, by go_num, hM2, hO3, hB1⟩
              · have hex : Hid (j < A.length → cB o u y (A.getD j ByteArray.empty) < 0) := fun _ => by rw [← unhide HX]; simpa using hr
                clear hr HR HNX
                go_wp2_with fail
                go_meet
                exact ⟨j, P, hjl, rfl, hM, hex, (unhide hSt).1, (unhide hSt).2⟩
            · have hjt' : ¬ (j : Int) < (la : Int) := by omega
              obtain rfl : j = la := by omega
              have hex : Hid (j < A.length → cB o u y (A.getD j ByteArray.empty) < 0) := fun h => by have := unhide HLA; omega
              go_wp2_with fail
              go_region
              go_wp2_with fail
              go_meet
              exact ⟨j, P, hjl, rfl, hM, hex, (unhide hO).drew, (unhide hBl).drew⟩
        case rest =>
          obtain ⟨j, P, hjl, rfl, hM2, hex, hO2, hB2⟩ := hcut
          clear hM hO hBl
          obtain ⟨q0, q1, q2, hv0⟩ := sl_of_own (unhide hO2)
          subst hv0
          have hPl := (unhide hM2).2
          have hM3 := (unhide hM2).right hkB
          rw [← unhide HY] at hM3
          have HM3 := hide (hM3 (unhide hex))
          have cb1 := ((unhide hB2).cell (p := ⟨gb, ob + k, none⟩) hgb).trans (unhide CB0)
          have hsz := (unhide hB2).size
          clear hM3 hM2 hex
          go_wp2_with (at_builtin; refine wpList_append_own _ rfl _ _ 24 rfl w0.heap.size 9 i0 _ 1 16 Tryz.underlying24 hi hz0 hz1 hz2 rfl (by decide) _ _ _ rfl ((unhide hO2).alloc _) ⟨wc.heap.size, 0, none⟩ 1 1 [.string y] rfl rfl (one_new2 _ _ _) (one_one2 _) (by unfold maxLen; omega) (by omega) (by simp; omega) ?_)
          intro v1 w1 hO1 hg1 _
          have hB1 : Hid (Below w0.heap.size w0 w1) := ((unhide hB2).alloc hsz _).grown hg1 (by simp; omega) (fun z ez => ((unhide hO2).lt z ez).1)
          have hO3 : Hid (w1.ownsRow w0.heap.size 9 1 v1 (P ++ [y]).length (strs (P ++ [y]))) := by
            show w1.ownsRow _ _ _ _ _ _
            rw [strs_snoc, List.length_append, hPl]
            exact hO1
          obtain ⟨y0, y1, y2, hv1⟩ := sl_of_own hO1
          subst hv1
          clear hO1 hg1 hO2 hB2 cb1
          go_wp2_with fail
          go_roundg (lb - (k + 1))
          case measure => omega
          case rel => exact ⟨j, k + 1, _, hjl, by omega, rfl, rfl, by go_num, HM3, hO3, hB1⟩
      · have hlt' : ¬ (k : Int) < (lb : Int) := by omega
        obtain rfl : k = lb := by omega
        go_wp2_with fail
        go_meet
        exact ⟨i, O, hil, rfl, hM, hO, hBl⟩
  case rest =>
    obtain ⟨i, O, hil, rfl, hM, hO, hBl⟩ := hcut
    obtain ⟨s0, s1, s2, hv0⟩ := sl_of_own (unhide hO)
    subst hv0
    have hR := (unhide hM).done (by rw [unhide HLB]; exact Nat.le_refl _)
    have hOl := (unhide hM).2
    have HR := hide hR
    have hsz := (unhide hBl).size
    have hw0s : w.heap.size ≤ w0.heap.size := (unhide H0).2.size
    have TA2 := hide ((unhide TA).below (unhide hBl))
    clear hR hM C TB
    cases a with
    | none =>
      obtain ⟨rfl, rfl⟩ := (unhide TA).nil rfl
      obtain rfl : i = 0 := by omega
      have hA0 : A = [] := List.eq_nil_of_length_eq_zero (unhide HLA)
      have hO2 : Hid (wc.ownsRow w.heap.size 9 1 (.slice s0 s1 s2) (mrg (cB o u) A B).length (strs (mrg (cB o u) A B))) := by
        show wc.ownsRow _ _ _ _ _ _
        rw [unhide HR, hA0]
        simpa using own_base (unhide hO) hw0s
      have hB2 : Hid (Below w.heap.size w wc) := (unhide H0).2.trans ((unhide hBl).mono hw0s)
      clear hA0
      go_wp2_with (at_builtin; refine wpList_append_own_none rfl _ _ 24 rfl w0.heap.size 9 i0 1 Tryz.underlying24 hi _ _ _ rfl (unhide hO) rfl ?_)
      go_wp2_with fail
      go_ret
      exact ⟨_, rfl, unhide hO2, unhide hB2⟩
    | some ad =>
      obtain ⟨ga, oa, af⟩ := ad
      by_cases hin : i < la
      · obtain ⟨g2, o2, e2, hg2, _⟩ := tx_at (unhide TA2) hin
        obtain ⟨rfl, rfl, rfl⟩ : ga = g2 ∧ oa = o2 ∧ af = none := by simpa using e2
        have hcs : ∀ z v, (strs (A.drop i))[z]? = some v → wc.cell? ((⟨ga, oa + i, none⟩ : Addr).add z) = some v := by
          intro z v hz
          have hlA := unhide HLA
          have hzl : z < la - i := by
            have := (List.getElem?_eq_some_iff.1 hz).1
            rw [strs_len, List.length_drop] at this
            omega
          rcases (unhide TA2).cells with h0 | ⟨b1, f1, e3, _, hc⟩
          · omega
          · obtain ⟨rfl, rfl⟩ : ga = b1 ∧ oa = f1 := by simpa using e3
            have q := hc (i + z) (by omega)
            rw [Pa.add_none, Nat.add_assoc, q]
            have : (strs (A.drop i))[z]? = some (.string (A.getD (i + z) ByteArray.empty)) := by
              simp [strs, List.getD, List.getElem?_eq_getElem (show i + z < A.length by omega)]
            rw [this] at hz
            exact hz
        have HCS := hide hcs
        have hne : ¬ ca = i := by omega
        have hlen : Hid ((strs (A.drop i)).length = (la - i) * 1) := by show _ = _; rw [strs_len, List.length_drop, unhide HLA]; omega
        clear hcs e2
        go_wp2_with (at_builtin; refine wpList_append_own _ rfl _ _ 24 rfl w0.heap.size 9 i0 _ 1 16 Tryz.underlying24 hi hz0 hz1 hz2 rfl (by decide) _ _ _ rfl (unhide hO) ⟨ga, oa + i, none⟩ (la - i) (ca - i) (strs (A.drop i)) rfl (unhide hlen) (unhide HCS) (strs_one _) (by unfold maxLen; omega) (by omega) (by omega) ?_)
        intro v1 w1 hO1 hg1 _
        have hB1 : Hid (Below w.heap.size w w1) := by
          have q := (unhide hBl).grown hg1 hsz (fun z ez => ((unhide hO).lt z ez).1)
          exact (unhide H0).2.trans (q.mono hw0s)
        have hO2 : Hid (w1.ownsRow w.heap.size 9 1 v1 (mrg (cB o u) A B).length (strs (mrg (cB o u) A B))) := by
          show w1.ownsRow _ _ _ _ _ _
          rw [unhide HR, strs_app, List.length_append]
          refine own_base ?_ hw0s
          rw [List.length_drop, unhide HLA, hOl]; exact hO1
        obtain ⟨y0, y1, y2, hv1⟩ := sl_of_own hO1
        subst hv1
        clear hO1 hg1 hO hBl
        go_wp2_with fail
        go_ret
        exact ⟨_, rfl, unhide hO2, unhide hB1⟩
      · obtain rfl : i = la := by omega
        have hA0 : Hid (A.drop i = []) := List.drop_eq_nil_of_le (by rw [unhide HLA]; exact Nat.le_refl _)
        by_cases hc : ca = i
        · subst hc
          go_wp2_with (at_builtin; refine wpList_append_own _ rfl _ _ 24 rfl w0.heap.size 9 i0 _ 1 16 Tryz.underlying24 hi hz0 hz1 hz2 rfl (by decide) _ _ _ rfl (unhide hO) _ 0 _ [] rfl rfl (by intro z v hz; simp at hz) (by intro z hz; simp at hz) (by unfold maxLen; omega) (by omega) (by omega) ?_)
          intro v1 w1 hO1 hg1 _
          have hB1 : Hid (Below w.heap.size w w1) := by
            have q := (unhide hBl).grown hg1 hsz (fun z ez => ((unhide hO).lt z ez).1)
            exact (unhide H0).2.trans (q.mono hw0s)
          have hO2 : Hid (w1.ownsRow w.heap.size 9 1 v1 (mrg (cB o u) A B).length (strs (mrg (cB o u) A B))) := by
            show w1.ownsRow _ _ _ _ _ _
            rw [unhide HR, strs_app, List.length_append]
            refine own_base ?_ hw0s
            rw [unhide hA0, hOl]; simpa [strs] using hO1
          obtain ⟨y0, y1, y2, hv1⟩ := sl_of_own hO1
          subst hv1
          clear hO1 hg1 hO hBl
          go_wp2_with fail
          go_ret
          exact ⟨_, rfl, unhide hO2, unhide hB1⟩
        · go_wp2_with (at_builtin; refine wpList_append_own _ rfl _ _ 24 rfl w0.heap.size 9 i0 _ 1 16 Tryz.underlying24 hi hz0 hz1 hz2 rfl (by decide) _ _ _ rfl (unhide hO) _ 0 _ [] rfl rfl (by intro z v hz; simp at hz) (by intro z hz; simp at hz) (by unfold maxLen; omega) (by omega) (by omega) ?_)
          intro v1 w1 hO1 hg1 _
          have hB1 : Hid (Below w.heap.size w w1) := by
            have q := (unhide hBl).grown hg1 hsz (fun z ez => ((unhide hO).lt z ez).1)
            exact (unhide H0).2.trans (q.mono hw0s)
          have hO2 : Hid (w1.ownsRow w.heap.size 9 1 v1 (mrg (cB o u) A B).length (strs (mrg (cB o u) A B))) := by
            show w1.ownsRow _ _ _ _ _ _
            rw [unhide HR, strs_app, List.length_append]
            refine own_base ?_ hw0s
            rw [unhide hA0, hOl]; simpa [strs] using hO1
          obtain ⟨y0, y1, y2, hv1⟩ := sl_of_own hO1
          subst hv1
          clear hO1 hg1 hO hBl
          go_wp2_with fail
          go_ret
          exact ⟨_, rfl, unhide hO2, unhide hB1⟩
end Go.Proofs.YtjfjhpakkflceaaGreatDoor.So

/- What the document's sorted answers: by induction on how many lines there are. -/
namespace Go.Proofs.YtjfjhpakkflceaaGreatDoor.So
open Go.RowKit Go.Shelf Ky
open Pa (Tx)

attribute [local go_sem] Oper.semAt_some

/-- what is said of sorted, for so many lines -/
def SortedSays (o : Ky.Ord) (u : Bool) (n : Nat) : Prop := ∀ (A : Ls) (a : Option Addr) (la ca : Nat) (w : World), la ≤ n → Tx w a la ca A → la ≤ 8388608 → ca ≤ 9223372036854775807 → (∀ s ∈ A, s.size ≤ 1073741000) →
  Calls Tryz.prog 35 #[ov o, .bool u, .slice a la ca] w fun e w' => ∃ v, e = .returned v ∧ w'.ownsRow w.heap.size 9 1 v (ms (cB o u) A).length (strs (ms (cB o u) A)) ∧ Below w.heap.size w w'

set_option maxRecDepth 100000 in
set_option maxHeartbeats 1000000 in
theorem sorted_many (o : Ky.Ord) (u : Bool) (n : Nat) (ih : SortedSays o u n) (A : Ls) (a : Option Addr) (la ca : Nat) (w : World) (hn : la ≤ n + 1) (hT : Tx w a la ca A) (hl : la ≤ 8388608) (hca : ca ≤ 9223372036854775807) (hs : ∀ s ∈ A, s.size ≤ 1073741000) (h2 : 2 ≤ la) :
    Calls Tryz.prog 35 #[ov o, .bool u, .slice a la ca] w fun e w' => ∃ v, e = .returned v ∧ w'.ownsRow w.heap.size 9 1 v (ms (cB o u) A).length (strs (ms (cB o u) A)) ∧ Below w.heap.size w w' := by
  obtain ⟨g, off, rfl, hg, _⟩ := tx_at hT (show 0 < la by omega)
  have hlen := hT.len
  have hle := hT.le
  obtain ⟨k, hk⟩ : ∃ k, k = la / 2 := ⟨_, rfl⟩
  have hk1 : 1 ≤ k := by omega
  have hk2 : k < la := by omega
  have hms : ms (cB o u) A = mrg (cB o u) (ms (cB o u) (A.take k)) (ms (cB o u) (A.drop k)) := by rw [ms_many _ (by omega), hlen, ← hk]
  have g0 := good_cB o u
  have p1 := (ms_all g0 _ (A.take k) (Nat.le_refl _)).1
  have p2 := (ms_all g0 _ (A.drop k) (Nat.le_refl _)).1
  have n1 : (ms (cB o u) (A.take k)).length = k := by rw [p1.length_eq, List.length_take, hlen]; omega
  have n2 : (ms (cB o u) (A.drop k)).length = la - k := by rw [p2.length_eq, List.length_drop, hlen]
  have s1 : ∀ s ∈ ms (cB o u) (A.take k), s.size ≤ 1073741000 := fun s h => hs s (List.mem_of_mem_take (p1.subset h))
  have s2 : ∀ s ∈ ms (cB o u) (A.drop k), s.size ≤ 1073741000 := fun s h => hs s (List.mem_of_mem_drop (p2.subset h))
  have s3 : ∀ s ∈ A.take k, s.size ≤ 1073741000 := fun s h => hs s (List.mem_of_mem_take h)
  have s4 : ∀ s ∈ A.drop k, s.size ≤ 1073741000 := fun s h => hs s (List.mem_of_mem_drop h)
  have SS : Hid (∀ W, Held w o W → W.cell? ⟨w.heap.size, 0, none⟩ = some (.bool o.num) ∧ W.cell? ⟨w.heap.size, 1, none⟩ = some (.bool o.fold) ∧ W.cell? ⟨w.heap.size, 2, none⟩ = some (.bool o.bls) ∧ W.cell? ⟨w.heap.size, 3, none⟩ = some (.bool o.rev) ∧ W.cell? ⟨w.heap.size, 4, none⟩ = some (.int .i64 o.fr) ∧ W.cell? ⟨w.heap.size, 5, none⟩ = some (.int .i64 o.«to») ∧ W.cell? ⟨w.heap.size, 6, none⟩ = some (.int .u8 (o.sep.toNat : Int)) ∧ Hid (Held w o W)) := fun W h => by
    obtain ⟨e0, e1, e2, e3, e4, e5, e6⟩ := h.1.cells
    exact ⟨e0, e1, e2, e3, e4, e5, e6, h⟩
  have K1 : Hid (∀ W, (W.cell? ⟨w.heap.size, 0, none⟩ = some (.bool o.num) ∧ W.cell? ⟨w.heap.size, 1, none⟩ = some (.bool o.fold) ∧ W.cell? ⟨w.heap.size, 2, none⟩ = some (.bool o.bls) ∧ W.cell? ⟨w.heap.size, 3, none⟩ = some (.bool o.rev) ∧ W.cell? ⟨w.heap.size, 4, none⟩ = some (.int .i64 o.fr) ∧ W.cell? ⟨w.heap.size, 5, none⟩ = some (.int .i64 o.«to») ∧ W.cell? ⟨w.heap.size, 6, none⟩ = some (.int .u8 (o.sep.toNat : Int)) ∧ Hid (Held w o W)) → Calls Tryz.prog 35 #[.agg #[.bool o.num, .bool o.fold, .bool o.bls, .bool o.rev, .int .i64 o.fr, .int .i64 o.«to», .int .u8 (o.sep.toNat : Int)], .bool u, .slice (some ⟨g, off, none⟩) k ca] W fun e w' => ∃ v, e = .returned v ∧ (w'.ownsRow W.heap.size 9 1 v (ms (cB o u) (A.take k)).length (strs (ms (cB o u) (A.take k))) ∧ Below W.heap.size W w') ∧ (w'.cell? ⟨w.heap.size, 0, none⟩ = some (.bool o.num) ∧ w'.cell? ⟨w.heap.size, 1, none⟩ = some (.bool o.fold) ∧ w'.cell? ⟨w.heap.size, 2, none⟩ = some (.bool o.bls) ∧ w'.cell? ⟨w.heap.size, 3, none⟩ = some (.bool o.rev) ∧ w'.cell? ⟨w.heap.size, 4, none⟩ = some (.int .i64 o.fr) ∧ w'.cell? ⟨w.heap.size, 5, none⟩ = some (.int .i64 o.«to») ∧ w'.cell? ⟨w.heap.size, 6, none⟩ = some (.int .u8 (o.sep.toNat : Int)) ∧ Hid (Held w o w'))) := fun W h =>
    (ih (A.take k) _ k ca W (by omega) (tx_take (hT.below (unhide h.2.2.2.2.2.2.2).2) k (by omega)) (by omega) hca s3).mono fun e w' q => by
      obtain ⟨v, h1, h2, h3⟩ := q
      exact ⟨v, h1, ⟨h2, h3⟩, unhide SS w' ((unhide h.2.2.2.2.2.2.2).step h3)⟩
  have K2 : Hid (∀ W, (W.cell? ⟨w.heap.size, 0, none⟩ = some (.bool o.num) ∧ W.cell? ⟨w.heap.size, 1, none⟩ = some (.bool o.fold) ∧ W.cell? ⟨w.heap.size, 2, none⟩ = some (.bool o.bls) ∧ W.cell? ⟨w.heap.size, 3, none⟩ = some (.bool o.rev) ∧ W.cell? ⟨w.heap.size, 4, none⟩ = some (.int .i64 o.fr) ∧ W.cell? ⟨w.heap.size, 5, none⟩ = some (.int .i64 o.«to») ∧ W.cell? ⟨w.heap.size, 6, none⟩ = some (.int .u8 (o.sep.toNat : Int)) ∧ Hid (Held w o W)) → Calls Tryz.prog 35 #[.agg #[.bool o.num, .bool o.fold, .bool o.bls, .bool o.rev, .int .i64 o.fr, .int .i64 o.«to», .int .u8 (o.sep.toNat : Int)], .bool u, .slice (some ⟨g, off + k, none⟩) (la - k) (ca - k)] W fun e w' => ∃ v, e = .returned v ∧ (w'.ownsRow W.heap.size 9 1 v (ms (cB o u) (A.drop k)).length (strs (ms (cB o u) (A.drop k))) ∧ Below W.heap.size W w') ∧ (w'.cell? ⟨w.heap.size, 0, none⟩ = some (.bool o.num) ∧ w'.cell? ⟨w.heap.size, 1, none⟩ = some (.bool o.fold) ∧ w'.cell? ⟨w.heap.size, 2, none⟩ = some (.bool o.bls) ∧ w'.cell? ⟨w.heap.size, 3, none⟩ = some (.bool o.rev) ∧ w'.cell? ⟨w.heap.size, 4, none⟩ = some (.int .i64 o.fr) ∧ w'.cell? ⟨w.heap.size, 5, none⟩ = some (.int .i64 o.«to») ∧ w'.cell? ⟨w.heap.size, 6, none⟩ = some (.int .u8 (o.sep.toNat : Int)) ∧ Hid (Held w o w'))) := fun W h =>
    (ih (A.drop k) _ (la - k) (ca - k) W (by omega) (tx_drop (hT.below (unhide h.2.2.2.2.2.2.2).2) k hk2) (by omega) (by omega) s4).mono fun e w' q => by
      obtain ⟨v, h1, h2, h3⟩ := q
      exact ⟨v, h1, ⟨h2, h3⟩, unhide SS w' ((unhide h.2.2.2.2.2.2.2).step h3)⟩
  have KM : Hid (∀ W (x y : Option Addr) (cx cy : Nat), (W.cell? ⟨w.heap.size, 0, none⟩ = some (.bool o.num) ∧ W.cell? ⟨w.heap.size, 1, none⟩ = some (.bool o.fold) ∧ W.cell? ⟨w.heap.size, 2, none⟩ = some (.bool o.bls) ∧ W.cell? ⟨w.heap.size, 3, none⟩ = some (.bool o.rev) ∧ W.cell? ⟨w.heap.size, 4, none⟩ = some (.int .i64 o.fr) ∧ W.cell? ⟨w.heap.size, 5, none⟩ = some (.int .i64 o.«to») ∧ W.cell? ⟨w.heap.size, 6, none⟩ = some (.int .u8 (o.sep.toNat : Int)) ∧ Hid (Held w o W)) → Tx W x (ms (cB o u) (A.take k)).length cx (ms (cB o u) (A.take k)) → Tx W y (ms (cB o u) (A.drop k)).length cy (ms (cB o u) (A.drop k)) → cx ≤ 9223372036854775807 →
      Calls Tryz.prog 92 #[.agg #[.bool o.num, .bool o.fold, .bool o.bls, .bool o.rev, .int .i64 o.fr, .int .i64 o.«to», .int .u8 (o.sep.toNat : Int)], .bool u, .slice x (ms (cB o u) (A.take k)).length cx, .slice y (ms (cB o u) (A.drop k)).length cy] W fun e w' => ∃ v, e = .returned v ∧ w'.ownsRow w.heap.size 9 1 v (ms (cB o u) A).length (strs (ms (cB o u) A)) ∧ (w'.cell? ⟨w.heap.size, 0, none⟩ = some (.bool o.num) ∧ w'.cell? ⟨w.heap.size, 1, none⟩ = some (.bool o.fold) ∧ w'.cell? ⟨w.heap.size, 2, none⟩ = some (.bool o.bls) ∧ w'.cell? ⟨w.heap.size, 3, none⟩ = some (.bool o.rev) ∧ w'.cell? ⟨w.heap.size, 4, none⟩ = some (.int .i64 o.fr) ∧ w'.cell? ⟨w.heap.size, 5, none⟩ = some (.int .i64 o.«to») ∧ w'.cell? ⟨w.heap.size, 6, none⟩ = some (.int .u8 (o.sep.toNat : Int)) ∧ Hid (Held w o w'))) := fun W x y cx cy h t1 t2 hc =>
    (merged_any o u _ _ x y _ cx _ cy W t1 t2 (by rw [n1, n2]; omega) hc s1 s2).mono fun e w' q => by
      obtain ⟨v, h1, h2, h3⟩ := q
      have hh := unhide h.2.2.2.2.2.2.2
      exact ⟨v, h1, by rw [hms]; exact own_base h2 hh.2.size, unhide SS w' (hh.step h3)⟩
  obtain ⟨L1, hL1⟩ : ∃ L, L = ms (cB o u) (A.take k) := ⟨_, rfl⟩
  obtain ⟨L2, hL2⟩ : ∃ L, L = ms (cB o u) (A.drop k) := ⟨_, rfl⟩
  rw [← hL1] at K1 KM
  rw [← hL2] at K2 KM
  obtain ⟨w0, hw0⟩ : ∃ w0, w0 = w.alloc (.cells #[.bool o.num, .bool o.fold, .bool o.bls, .bool o.rev, .int .i64 o.fr, .int .i64 o.«to», .int .u8 (o.sep.toNat : Int)] 23) := ⟨_, rfl⟩
  have H0 : Held w o w0 := by rw [hw0]; exact ⟨OR.new w o, (Below.refl _ _).alloc (Nat.le_refl _) _⟩
  have hS := unhide SS w0 H0
  have hSd := unhide SS w0.drew ⟨H0.1, H0.2.drew⟩
  have HW0 := hide hw0
  have hdiv : (la : Int) / 2 = (k : Int) := by omega
  have h2' : ¬ (la : Int) < 2 := by omega
  have hne : ¬ ca = k := by omega
  have b0 : (0 : Int) ≤ (k : Int) := by omega
  have b1 : (k : Int) ≤ (ca : Int) := by omega
  have b2 : (k : Int) ≤ (la : Int) := by omega
  generalize ms (cB o u) A = R at *
  clear hw0 H0 SS hL1 hL2 hms p1 p2 n1 n2 s1 s2 s3 s4 g0 hs hT ih hk hlen
  unfold ov
  go_enter Tryz.func35, Tryz.ntmps35
  go_upto_region 4 with fail
  rw [← unhide HW0]
  clear HW0
  go_region_held3 (fun w' => w'.cell? ⟨w.heap.size, 0, none⟩ = some (.bool o.num) ∧ w'.cell? ⟨w.heap.size, 1, none⟩ = some (.bool o.fold) ∧ w'.cell? ⟨w.heap.size, 2, none⟩ = some (.bool o.bls) ∧ w'.cell? ⟨w.heap.size, 3, none⟩ = some (.bool o.rev) ∧ w'.cell? ⟨w.heap.size, 4, none⟩ = some (.int .i64 o.fr) ∧ w'.cell? ⟨w.heap.size, 5, none⟩ = some (.int .i64 o.«to») ∧ w'.cell? ⟨w.heap.size, 6, none⟩ = some (.int .u8 (o.sep.toNat : Int)) ∧ Hid (Held w o w')) (first | assumption | go_keep)
    (first | (with_reducible refine (unhide K1 _ (by assumption)).mono ?_; rintro e w1 ⟨v1, rfl, hv1, hS1⟩; obtain ⟨a1, c1, rfl, t1, q1⟩ := own_tx hv1.1) | (with_reducible refine (unhide K2 _ (by assumption)).mono ?_; rintro e w2 ⟨v2, rfl, hv2, hS2⟩; obtain ⟨a2, c2, rfl, t2, q2⟩ := own_tx hv2.1) | (with_reducible refine (unhide KM _ _ _ _ _ (by assumption) (Tx.below t1 hv2.2) t2 q1).mono ?_; rintro e w3 ⟨v3, rfl, hv3, hS3⟩; obtain ⟨a3, c3, rfl, t3, q3⟩ := own_tx hv3))
  go_wp2_with fail
  go_ret
  exact ⟨_, rfl, hv3, (unhide hS3.2.2.2.2.2.2.2).2⟩

set_option maxRecDepth 100000 in
set_option maxHeartbeats 400000 in
theorem sorted_few (o : Ky.Ord) (u : Bool) (A : Ls) (a : Option Addr) (la ca : Nat) (w : World) (hT : Tx w a la ca A) (h2 : la < 2) :
    Calls Tryz.prog 35 #[ov o, .bool u, .slice a la ca] w fun e w' => ∃ v, e = .returned v ∧ w'.ownsRow w.heap.size 9 1 v (ms (cB o u) A).length (strs (ms (cB o u) A)) ∧ Below w.heap.size w w' := by
  obtain ⟨i0, hi, hz0, hz1, hz2⟩ := info_parts Pa.Tryz.infoStr
  have hlen := hT.len
  rw [ms_few _ (by omega)]
  obtain ⟨w0, hw0⟩ : ∃ w0, w0 = w.alloc (.cells #[.bool o.num, .bool o.fold, .bool o.bls, .bool o.rev, .int .i64 o.fr, .int .i64 o.«to», .int .u8 (o.sep.toNat : Int)] 23) := ⟨_, rfl⟩
  have hB0 : Hid (Below w.heap.size w w0) := by show Below _ _ _; rw [hw0]; exact (Below.refl _ _).alloc (Nat.le_refl _) _
  have hsz : w.heap.size ≤ w0.heap.size := (unhide hB0).size
  have T0 := hide ((hT.below (unhide hB0)).below ((Below.refl _ w0).alloc (Nat.le_refl _) (.cells #[] 9)))
  have hown : Hid ((w0.alloc (.cells #[] 9)).ownsRow w.heap.size 9 1 (.slice (some ⟨w0.heap.size, 0, none⟩) 0 0) 0 []) := World.ownsRow_lit w0 #[] 0 hsz (by decide) rfl
  have hB1 : Hid (Below w.heap.size w (w0.alloc (.cells #[] 9))) := (unhide hB0).alloc hsz _
  have h2' : (la : Int) < 2 := by omega
  have HL := hide hlen
  have HW0 := hide hw0
  clear hw0 hlen hT
  unfold ov
  go_enter Tryz.func35, Tryz.ntmps35
  go_upto_region 2 with fail
  rw [← unhide HW0]
  clear HW0
  cases a with
  | none =>
    obtain ⟨rfl, rfl⟩ := (unhide T0).nil rfl
    have hA0 : A = [] := List.eq_nil_of_length_eq_zero (unhide HL)
    have HR : Hid ((w0.alloc (.cells #[] 9)).ownsRow w.heap.size 9 1 (.slice (some ⟨w0.heap.size, 0, none⟩) 0 0) A.length (strs A)) := by show World.ownsRow _ _ _ _ _ _ _; rw [hA0]; exact unhide hown
    clear hA0
    go_wp2_with (at_builtin; refine wpList_append_own_none rfl _ _ 24 rfl w.heap.size 9 i0 1 Tryz.underlying24 hi _ _ _ rfl (unhide hown) rfl ?_)
    go_wp2_with fail
    go_ret
    exact ⟨_, rfl, unhide HR, unhide hB1⟩
  | some ad =>
    obtain ⟨ga, oa, af⟩ := ad
    by_cases h0 : la = 0
    · subst h0
      have hA0 : A = [] := List.eq_nil_of_length_eq_zero (unhide HL)
      go_wp2_with (at_builtin; refine wpList_append_own _ rfl _ _ 24 rfl w.heap.size 9 i0 _ 1 16 Tryz.underlying24 hi hz0 hz1 hz2 rfl (by decide) _ _ _ rfl (unhide hown) _ 0 _ [] rfl rfl (by intro z v hz; simp at hz) (by intro z hz; simp at hz) (by unfold maxLen; omega) (by omega) (by simp; omega) ?_)
      intro v1 w1 hO1 hg1 _
      have hB2 : Hid (Below w.heap.size w w1) := (unhide hB1).grown hg1 (by simp; omega) (fun z ez => ((unhide hown).lt z ez).1)
      have hO2 : Hid (w1.ownsRow w.heap.size 9 1 v1 A.length (strs A)) := by show w1.ownsRow _ _ _ _ _ _; rw [hA0]; exact hO1
      obtain ⟨y0, y1, y2, hv1⟩ := sl_of_own hO1
      subst hv1
      clear hO1 hg1 hown hB1 hA0
      go_wp2_with fail
      go_ret
      exact ⟨_, rfl, unhide hO2, unhide hB2⟩
    · obtain rfl : la = 1 := by omega
      obtain ⟨g2, o2, e2, hg2, hc2⟩ := tx_at (unhide T0) (show 0 < 1 by omega)
      obtain ⟨rfl, rfl, rfl⟩ : ga = g2 ∧ oa = o2 ∧ af = none := by simpa using e2
      obtain ⟨x, hx⟩ : ∃ x, A = [x] := by
        match A, unhide HL with
        | [x], _ => exact ⟨x, rfl⟩
      have hcs : ∀ z v, [Value.string x][z]? = some v → (w0.alloc (.cells #[] 9)).cell? ((⟨ga, oa, none⟩ : Addr).add z) = some v := by
        intro z v hz
        match z, hz with
        | 0, hz =>
          simp at hz
          subst hz
          rw [Pa.add_none]
          rw [hx] at hc2
          exact hc2
      have HCS := hide hcs
      clear hcs hc2 e2
      go_wp2_with (at_builtin; refine wpList_append_own _ rfl _ _ 24 rfl w.heap.size 9 i0 _ 1 16 Tryz.underlying24 hi hz0 hz1 hz2 rfl (by decide) _ _ _ rfl (unhide hown) ⟨ga, oa, none⟩ 1 _ [.string x] rfl rfl (unhide HCS) (one_one2 _) (by unfold maxLen; omega) (by omega) (by simp; omega) ?_)
      intro v1 w1 hO1 hg1 _
      have hB2 : Hid (Below w.heap.size w w1) := (unhide hB1).grown hg1 (by simp; omega) (fun z ez => ((unhide hown).lt z ez).1)
      have hO2 : Hid (w1.ownsRow w.heap.size 9 1 v1 A.length (strs A)) := by show w1.ownsRow _ _ _ _ _ _; rw [hx]; exact hO1
      obtain ⟨y0, y1, y2, hv1⟩ := sl_of_own hO1
      subst hv1
      clear hO1 hg1 hown hB1 hx HCS
      go_wp2_with fail
      go_ret
      exact ⟨_, rfl, unhide hO2, unhide hB2⟩
theorem sorted_says (o : Ky.Ord) (u : Bool) : ∀ n, SortedSays o u n := by
  intro n
  induction n with
  | zero => intro A a la ca w hn hT _ _ _; exact sorted_few o u A a la ca w hT (by omega)
  | succ n ih =>
    intro A a la ca w hn hT hl hca hs
    by_cases h2 : la < 2
    · exact sorted_few o u A a la ca w hT h2
    · exact sorted_many o u n ih A a la ca w hn hT hl hca hs (by omega)
theorem sorted_any (o : Ky.Ord) (u : Bool) (A : Ls) (a : Option Addr) (la ca : Nat) (w : World) (hT : Tx w a la ca A) (hl : la ≤ 8388608) (hca : ca ≤ 9223372036854775807) (hs : ∀ s ∈ A, s.size ≤ 1073741000) :
    Calls Tryz.prog 35 #[ov o, .bool u, .slice a la ca] w fun e w' => ∃ v, e = .returned v ∧ w'.ownsRow w.heap.size 9 1 v (ms (cB o u) A).length (strs (ms (cB o u) A)) ∧ Below w.heap.size w w' :=
  sorted_says o u la A a la ca w (Nat.le_refl _) hT hl hca hs
end Go.Proofs.YtjfjhpakkflceaaGreatDoor.So
