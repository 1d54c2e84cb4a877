/- What the document's Compare answers. -/
import Derived.Test.YtjfjhpakkflceaaDoorKyRefFit
import Derived.Test.YtjfjhpakkflceaaDoorKyRefKey
import Derived.Test.YtjfjhpakkflceaaDoorKyRefNumb
import Derived.Deep.RegionHeld3
namespace Go.Proofs.YtjfjhpakkflceaaDoor.Ky
open Go.RowKit Go.Shelf

attribute [local go_sem] Oper.semAt_some

/-- what is held while keys are made fit -/
def Held (w : World) (o : Ord) (W : World) : Prop := OR W w.heap.size o ∧ Below w.heap.size w W
theorem Held.step {w W W' : World} {o : Ord} (h : Held w o W) (b : Below W.heap.size W W') : Held w o W' := ⟨h.1.below b, h.2.trans (b.mono h.2.size)⟩
def S7 (w : World) (o : Ord) (bn : Bool) (W : World) : Prop :=
  W.cell? ⟨w.heap.size, 0, none⟩ = some (.bool bn) ∧ W.cell? ⟨w.heap.size, 1, none⟩ = some (.bool o.fold) ∧ W.cell? ⟨w.heap.size, 2, none⟩ = some (.bool o.bls) ∧ W.cell? ⟨w.heap.size, 3, none⟩ = some (.bool o.rev) ∧ W.cell? ⟨w.heap.size, 4, none⟩ = some (.int .i64 o.fr) ∧ W.cell? ⟨w.heap.size, 5, none⟩ = some (.int .i64 o.«to») ∧ W.cell? ⟨w.heap.size, 6, none⟩ = some (.int .u8 (o.sep.toNat : Int)) ∧ Hid (Held w o W)
theorem S7.of {w W : World} {o : Ord} {bn : Bool} (hb : bn = o.num) (h : Held w o W) : S7 w o bn W := by
  obtain ⟨h0, h1, h2, h3, h4, h5, h6⟩ := h.1.cells
  exact ⟨by rw [hb]; exact h0, h1, h2, h3, h4, h5, h6, h⟩
theorem S7.held {w W : World} {o : Ord} {bn : Bool} (h : S7 w o bn W) : Held w o W := unhide h.2.2.2.2.2.2.2
theorem len_key (o : Ord) (s : ByteArray) : (Ln.bt (key o s.data.toList)).size ≤ s.size := key_len o s.data.toList

set_option maxRecDepth 100000 in
set_option maxHeartbeats 1000000 in
theorem rcompare_any (o : Ord) (a b : ByteArray) (w : World) (ha : a.size ≤ 1073741000) (hb : b.size ≤ 1073741000) :
    Calls Tryd.prog 24 #[ov o, .string a, .string b] w fun e w' => e = .returned (.int .i64 (compare o a.data.toList b.data.toList)) ∧ Below w.heap.size w w' := by
  have CK := hide (fun W => rcheck_any o W)
  have K1 := hide (fun W => rkey_any o a W ha)
  have K2 := hide (fun W => rkey_any o b W hb)
  have z1 := len_key o a
  have z2 := len_key o b
  have RN := hide (fun W => rnumber_any (Ln.bt (key o a.data.toList)) (Ln.bt (key o b.data.toList)) W (by omega) (by omega))
  have F1 := hide (fun W => rfit_any o (Ln.bt (key o a.data.toList)) W (by omega))
  have F2 := hide (fun W => rfit_any o (Ln.bt (key o b.data.toList)) W (by omega))
  have hcmp : compare o a.data.toList b.data.toList = if okO o = false then 0 else if o.rev = true then -(if o.num = true then number (Ln.bt (key o a.data.toList)).data.toList (Ln.bt (key o b.data.toList)).data.toList else cmpL (fit o (Ln.bt (key o a.data.toList)).data.toList) (fit o (Ln.bt (key o b.data.toList)).data.toList)) else (if o.num = true then number (Ln.bt (key o a.data.toList)).data.toList (Ln.bt (key o b.data.toList)).data.toList else cmpL (fit o (Ln.bt (key o a.data.toList)).data.toList) (fit o (Ln.bt (key o b.data.toList)).data.toList)) := rfl
  rw [hcmp]
  have BY := hide (fun W => bytes_any (Ln.bt (fit o (Ln.bt (key o a.data.toList)).data.toList)) (Ln.bt (fit o (Ln.bt (key o b.data.toList)).data.toList)) W)
  have e3 : ∀ l : Bs, (Ln.bt l).data.toList = l := fun _ => rfl
  simp only [e3] at BY
  have G1 := hide (good_number.rg (Ln.bt (key o a.data.toList)).data.toList (Ln.bt (key o b.data.toList)).data.toList)
  have G2 := hide (good_cmpL.rg (fit o (key o a.data.toList)) (fit o (key o b.data.toList)))
  simp only [e3] at RN F1 F2 G1 ⊢
  generalize number (key o a.data.toList) (key o b.data.toList) = n1 at *
  generalize cmpL (fit o (key o a.data.toList)) (fit o (key o b.data.toList)) = n2 at *
  generalize Ln.bt (fit o (key o a.data.toList)) = X1 at *
  generalize Ln.bt (fit o (key o b.data.toList)) = Y1 at *
  generalize Ln.bt (key o a.data.toList) = X at *
  generalize Ln.bt (key o b.data.toList) = Y at *
  unfold ov at CK K1 K2 F1 F2 ⊢
  clear hcmp e3 ha hb z1 z2
  have H0 : Hid (Held w o (w.alloc (.cells #[.bool o.num, .bool o.fold, .bool o.bls, .bool o.rev, .int .i64 o.fr, .int .i64 o.«to», .int .u8 (o.sep.toNat : Int)] 23))) := ⟨OR.new w o, (Below.refl _ _).alloc (Nat.le_refl _) _⟩
  obtain ⟨ok, hok⟩ : ∃ ok, ok = okO o := ⟨_, rfl⟩
  rw [← hok] at CK ⊢
  clear hok
  cases ok
  · rw [if_pos rfl]
    go_enter Tryd.func24, Tryd.ntmps24
    go_wp2_with fail
    refine (unhide CK _).mono ?_
    rintro e w1 ⟨rfl, b1⟩
    go_wp2_with fail
    go_ret
    exact ⟨rfl, ((unhide H0).step b1).2⟩
  · rw [if_neg (by simp)]
    obtain ⟨r, hr⟩ : ∃ r, r = (if o.rev = true then -(if o.num = true then n1 else n2) else if o.num = true then n1 else n2) := ⟨_, rfl⟩
    rw [← hr]
    have HR := hide hr
    clear hr
    go_enter Tryd.func24, Tryd.ntmps24
    go_wp2_with fail
    refine (unhide CK _).mono ?_
    rintro e w1 ⟨rfl, b1⟩
    have H1 := hide ((unhide H0).step b1)
    clear H0 b1 CK
    obtain ⟨d0, d1, d2, d3, d4, d5, d6⟩ := (unhide H1).1.cells
    go_wp2_with fail
    refine (unhide K1 _).mono ?_
    rintro e w2 ⟨rfl, b2⟩
    have H2 := hide ((unhide H1).step b2)
    clear H1 b2 K1 d0 d1 d2 d3 d4 d5 d6
    obtain ⟨d0, d1, d2, d3, d4, d5, d6⟩ := (unhide H2).1.cells
    go_wp2_with fail
    refine (unhide K2 _).mono ?_
    rintro e w3 ⟨rfl, b3⟩
    have H3 := hide ((unhide H2).step b3)
    clear H2 b3 K2 d0 d1 d2 d3 d4 d5 d6
    obtain ⟨d0, d1, d2, d3, d4, d5, d6⟩ := (unhide H3).1.cells
    obtain ⟨bn, hbn⟩ : ∃ b, b = o.num := ⟨_, rfl⟩
    obtain ⟨br, hbr⟩ : ∃ b, b = o.rev := ⟨_, rfl⟩
    rw [← hbn, ← hbr] at HR
    have HBN := hide hbn.symm
    have HBR := hide hbr.symm
    clear hbn hbr
    rw [unhide HBN] at d0
    have FF1 := F1
    have FF2 := F2
    rw [unhide HBN] at FF1 FF2
    obtain ⟨n, hn⟩ : ∃ n, n = if bn = true then n1 else n2 := ⟨_, rfl⟩
    have HN := hide hn
    rw [← hn] at HR
    clear hn F1 F2
    have SS : Hid (∀ W, Held w o W → S7 w o bn W) := fun W h => S7.of (unhide HBN).symm h
    have KF1 : Hid (∀ W, S7 w o bn W → Calls Tryd.prog 76 #[.agg #[.bool bn, .bool o.fold, .bool o.bls, .bool o.rev, .int .i64 o.fr, .int .i64 o.«to», .int .u8 (o.sep.toNat : Int)], .string X] W fun e w' => e = .returned (.string X1) ∧ S7 w o bn w') := fun W h => (unhide FF1 W).mono fun e w' q => ⟨q.1, unhide SS _ (h.held.step q.2)⟩
    have KF2 : Hid (∀ W, S7 w o bn W → Calls Tryd.prog 76 #[.agg #[.bool bn, .bool o.fold, .bool o.bls, .bool o.rev, .int .i64 o.fr, .int .i64 o.«to», .int .u8 (o.sep.toNat : Int)], .string Y] W fun e w' => e = .returned (.string Y1) ∧ S7 w o bn w') := fun W h => (unhide FF2 W).mono fun e w' q => ⟨q.1, unhide SS _ (h.held.step q.2)⟩
    have KB : Hid (∀ W, S7 w o bn W → Calls Tryd.prog 75 #[.string X1, .string Y1] W fun e w' => e = .returned (.int .i64 n2) ∧ S7 w o bn w') := fun W h => (unhide BY W).mono fun e w' q => ⟨q.1, by rw [q.2]; exact h⟩
    clear FF1 FF2 BY
    go_upto_if 20 with fail
    go_cut [9] (fun v wx => v = .int .i64 n ∧ Hid (Held w o wx))
    case first =>
      have hn := unhide HN
      clear HN HR G1 G2 HBR
      cases bn
      · obtain rfl : n = n2 := by simpa using hn
        have hS := unhide SS _ (unhide H3)
        have hSd := unhide SS w3.drew ⟨(unhide H3).1, (unhide H3).2.drew⟩
        clear hn HBN RN SS d0 d1 d2 d3 d4 d5 d6 H3
        unfold S7 at hS hSd KF1 KF2 KB
        go_wp2_with fail
        go_region_held3 (fun w' => w'.cell? ⟨w.heap.size, 0, none⟩ = some (.bool false) ∧ w'.cell? ⟨w.heap.size, 1, none⟩ = some (.bool o.fold) ∧ w'.cell? ⟨w.heap.size, 2, none⟩ = some (.bool o.bls) ∧ w'.cell? ⟨w.heap.size, 3, none⟩ = some (.bool o.rev) ∧ w'.cell? ⟨w.heap.size, 4, none⟩ = some (.int .i64 o.fr) ∧ w'.cell? ⟨w.heap.size, 5, none⟩ = some (.int .i64 o.«to») ∧ w'.cell? ⟨w.heap.size, 6, none⟩ = some (.int .u8 (o.sep.toNat : Int)) ∧ Hid (Held w o w')) (first | assumption | go_keep)
          (first | (with_reducible refine (unhide KF1 _ (by assumption)).mono ?_; rintro e w' ⟨rfl, hS1⟩) | (with_reducible refine (unhide KF2 _ (by assumption)).mono ?_; rintro e w' ⟨rfl, hS2⟩) | (with_reducible refine (unhide KB _ (by assumption)).mono ?_; rintro e w' ⟨rfl, hS3⟩))
        go_wp2_with fail
        go_meet
        exact ⟨rfl, hS3.2.2.2.2.2.2.2⟩
      · obtain rfl : n = n1 := by simpa using hn
        clear hn HBN KF1 KF2 KB SS
        go_wp2_with fail
        refine (unhide RN _).mono ?_
        rintro e w4 ⟨rfl, b4⟩
        have H4 := hide ((unhide H3).step b4)
        clear RN b4 H3
        go_wp2_with fail
        go_meet
        exact ⟨rfl, H4⟩
    case rest =>
      obtain ⟨rfl, H5⟩ := hcut
      have hg : Hid (n = -1 ∨ n = 0 ∨ n = 1) := by
        show _ ∨ _
        rw [unhide HN]
        cases bn
        · exact unhide G2
        · exact unhide G1
      clear d0 d1 d2 d3 d4 d5 d6
      obtain ⟨d0, d1, d2, d3, d4, d5, d6⟩ := (unhide H5).1.cells
      rw [unhide HBR] at d3
      have hr := unhide HR
      have hg2 := unhide hg
      have hl : -1 ≤ n ∧ n ≤ 1 := by omega
      clear hg2 hg HR HBR HBN HN G1 G2 KF1 KF2 KB SS RN H3
      cases br
      · obtain rfl : r = n := by simpa using hr
        clear hr
        go_wp2_with fail
        go_ret
        exact ⟨rfl, (unhide H5).2⟩
      · obtain rfl : r = -n := by simpa using hr
        clear hr
        go_wp2_with fail
        go_ret
        exact ⟨rfl, (unhide H5).2⟩
end Go.Proofs.YtjfjhpakkflceaaDoor.Ky
