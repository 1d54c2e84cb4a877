/- The law OptsTold's walk. -/
import Derived.Test.YtjnlpllibpmclaaAlive
import Derived.Test.YtjnlpllibpmclaaBeyond
namespace Go.Proofs.Ytjnlpllibpmclaa.Pa
open Go.RowKit

theorem parse_isn {which : ByteArray} {ss : List ByteArray} {fl : Fl} {rest : List ByteArray} {er : Int} (lf lr : Nat) (hp : parse which ss = (fl, rest, er)) (hlf : fl.length = lf) (hlr : rest.length = lr) (a : Option Addr) (n cap : Nat) (w : World) (hT : Tx w a n cap ss) (hs : which.size ≤ 4611686018427387900) (hn : n ≤ 4611686018427387900)
    (hss : ∀ s ∈ ss, s.size ≤ maxLen) (htot : (∀ s, ss.head? = some s → isOpt s.data.toList = true) → tot ss ≤ 4194304) :
    Calls Try.prog 12 #[.string which, .slice a n cap] w fun e w' => (∃ af cf at' ct, e = .returned (.tuple #[.slice af lf cf, .slice at' lr ct, .int .i64 er]) ∧ Fx w' af lf fl ∧ Tx w' at' lr ct rest) ∧ Below w.heap.size w w' := by
  subst hlf hlr
  exact parse_is hp a n cap w hT hs hn hss htot

/-- the flag a, k times -/
def aFl (k : Nat) : Fl := List.replicate k (97, ByteArray.empty)
theorem aFl_succ (k : Nat) : aFl (k + 1) = aFl k ++ [(97, ByteArray.empty)] := by unfold aFl; rw [List.replicate_succ']
theorem aFl_length (k : Nat) : (aFl k).length = k := by simp [aFl]

def nK : Int → Int := upd (upd (fun _ => 0) 110 2) 97 1
theorem rd_n : rd [110, 58, 97] (fun _ => 0) = some nK := rfl
theorem nK_a : nK ((97 : UInt8).toNat : Int) = 1 := by decide
theorem nK_n : nK ((110 : UInt8).toNat : Int) = 2 := by decide
theorem lets_as (nx : Option ByteArray) (k : Nat) (t : List UInt8) (fl : Fl) : lets nK nx (List.replicate k 97 ++ t) fl = lets nK nx t (fl ++ aFl k) := by
  induction k generalizing fl with
  | zero => simp [aFl]
  | succ k ih =>
    rw [List.replicate_succ, List.cons_append]
    simp only [lets, nK_a, if_true]
    rw [ih, List.append_assoc]
    congr 2
theorem words_two (fl : Fl) : words nK [{ data := #[45] }, { data := #[45, 97] }] fl = some (fl, [{ data := #[45] }, { data := #[45, 97] }]) := by
  rw [words_cons, if_neg (by decide), if_neg (by decide)]

theorem isOpt_of (w : ByteArray) (c : UInt8) (l : List UInt8) (h : w.data.toList = 45 :: c :: l) : isOpt w.data.toList = true := by rw [h]; simp [isOpt]

theorem told_next (k : Nat) (w s : ByteArray) (hw : w.data.toList = 45 :: (List.replicate k 97 ++ [110])) :
    parse { data := #[110, 58, 97] } [w, s, { data := #[45] }, { data := #[45, 97] }] = (aFl k ++ [(110, s)], [{ data := #[45] }, { data := #[45, 97] }], 0) := by
  refine parse_ok (K := nK) rd_n (by simp) ?_
  have ho : isOpt w.data.toList = true := by
    cases k with
    | zero => exact isOpt_of w 110 [] hw
    | succ k => exact isOpt_of w 97 (List.replicate k 97 ++ [110]) (by rw [hw, List.replicate_succ]; rfl)
  rw [words_cons, if_neg (by rw [hw]; cases k <;> simp [List.replicate_succ]), if_pos ho, hw]
  rw [List.drop_succ_cons, List.drop_zero, lets_as]
  have e : lets nK (some s) [110] ([] ++ aFl k) = some (aFl k ++ [(110, s)], true) := by
    simp only [lets, nK_n]; rfl
  show after nK _ (lets nK (some s) [110] ([] ++ aFl k)) = _
  rw [e]
  exact words_two _
theorem told_same (k : Nat) (w s : ByteArray) (hs : s.data.toList ≠ []) (hw : w.data.toList = 45 :: (List.replicate k 97 ++ 110 :: s.data.toList)) :
    parse { data := #[110, 58, 97] } [w, { data := #[45] }, { data := #[45, 97] }] = (aFl k ++ [(110, s)], [{ data := #[45] }, { data := #[45, 97] }], 0) := by
  refine parse_ok (K := nK) rd_n (by simp) ?_
  have ho : isOpt w.data.toList = true := by
    cases k with
    | zero => exact isOpt_of w 110 s.data.toList hw
    | succ k => exact isOpt_of w 97 (List.replicate k 97 ++ 110 :: s.data.toList) (by rw [hw, List.replicate_succ]; rfl)
  rw [words_cons, if_neg (by rw [hw]; cases k <;> simp [List.replicate_succ]), if_pos ho, hw]
  rw [List.drop_succ_cons, List.drop_zero, lets_as]
  have e : ∀ nx, lets nK nx (110 :: s.data.toList) ([] ++ aFl k) = some (aFl k ++ [(110, s)], false) := by
    intro nx
    simp only [lets, nK_n, hs, if_false]
    have : bs s.data.toList = s := Lib.mk_data s
    rw [this]
    rfl
  rw [e]
  exact words_two _

theorem cat_list (a b : ByteArray) : (a ++ b).data.toList = a.data.toList ++ b.data.toList := by simp
theorem size_len (s : ByteArray) : s.data.toList.length = s.size := rfl
theorem mem_small {l : List ByteArray} (h : tot l ≤ 4194304) : ∀ s ∈ l, s.size ≤ maxLen := small_mem l h
theorem fx_own_n {w : World} {base n : Nat} {v : Value} {fl : Fl} {e : TypeId} (h : w.ownsRow base e 2 v n (fcl fl)) (hl : fl.length = n) : ∃ a cap, v = .slice a n cap ∧ Fx w a n fl := by
  subst hl; exact fx_of_owns h

set_option maxHeartbeats 1000000 in
set_option maxRecDepth 100000 in
theorem told_walk (s : ByteArray) (ah : Int) (w : World) (hs : s.size ≤ 4611686018427387900) (h0 : 0 ≤ ah) (h1 : ah ≤ 255) :
    Calls Try.prog 5 #[.string s, .int .u8 ah] w fun e w' => e = .returned (.bool true) ∧ Below w.heap.size w w' := by
  obtain ⟨i0, hi, hi0, hi1, hi2⟩ := info_parts Try.infoFlag
  go_enter Try.func5, Try.ntmps5
  go_wp2_with fail
  refine (alive_any _).mono ?_
  rintro e w1 ⟨rfl, hb1⟩
  by_cases hbig : 1048576 < (s.size : Int)
  · go_wp2_with fail
    refine (Beyond.beyond_one (s.size : Int) _ _ (by simp) (by omega) (by omega)).mono ?_
    rintro e w2 ⟨rfl, rfl⟩
    go_wp2_with fail
    refine (alive_any _).mono ?_
    rintro e w3 ⟨rfl, hb3⟩
    go_wp2_with fail
    go_ret
    exact ⟨rfl, (hb1.alloc hb1.size _).trans (hb3.mono (by have := hb1.size; simp; omega))⟩
  · go_wp2_with fail
    refine (Beyond.beyond_one (s.size : Int) _ _ (by simp) (by omega) (by omega)).mono ?_
    rintro e w2 ⟨rfl, hw2⟩
    have hB2 : Below w.heap.size w w2 := by rw [hw2]; exact hb1.alloc hb1.size _
    clear hw2 hb1
    go_wp2_with fail
    go_loopw [5, 6, 7] (fun s5 s6 s7 wr => ∃ (k : Nat) (wd : ByteArray), (k : Int) ≤ ah ∧ s7 = .int .i64 k ∧ s5 = .string wd ∧ wd.size = k + 1 ∧ Hid (wd.data.toList = 45 :: List.replicate k 97) ∧
        wr.ownsRow w2.heap.size 35 2 s6 k (fcl (aFl k)) ∧ Below w2.heap.size w2 wr) (fun _ _ s7 _ => (ah - intOf s7).toNat)
    case atStart => exact ⟨0, _, by omega, rfl, rfl, rfl, rfl, World.ownsRow_nil _ _ _ _, Below.refl _ _⟩
    case round =>
      obtain ⟨k, wd, hk, rfl, rfl, hwz, hwl, hown, hnx⟩ := hrel
      have hsz := hnx.size
      by_cases hlt : (k : Int) < ah
      · have hwl2 : Hid ((wd ++ { data := #[97] } : ByteArray).data.toList = 45 :: List.replicate (k + 1) 97) := by
          show _ = _
          rw [cat_list, unhide hwl, List.replicate_succ']; rfl
        have hwz2 : Hid ((wd ++ { data := #[97] } : ByteArray).size = k + 1 + 1) := by
          show _ = _
          rw [← size_len, unhide hwl2]; simp
        have hws : wd.size ≤ 300 := by omega
        have HZ := hide hwz
        clear hwz
        go_wp2_with (at_builtin; refine wpList_append_own _ rfl _ _ 26 rfl w2.heap.size 35 i0 _ 2 24 Try.underlying26 hi hi0 hi1 hi2 rfl (by decide) _ _ _ rfl (hown.alloc _) ⟨wr.heap.size, 0, none⟩ 1 1 [.int .u8 97, .string ByteArray.empty] rfl rfl (pair_new _ _ _ _) (pair_one _ _ _) (by unfold maxLen; omega) (by omega) (by simp; omega) ?_; intro v' w9 hown9 hg9 hnil9)
        have hb9 : Below w2.heap.size w2 w9 := (hnx.alloc hsz _).grown hg9 (by simp; omega) (fun j hj => (hown.lt j hj).1)
        rw [← fcl_snoc, ← aFl_succ] at hown9
        have HO9 := hide hown9
        clear hg9 hnil9 hown9 hown hnx
        go_roundw
        case rel => exact ⟨k + 1, _, by omega, by go_num, rfl, unhide hwz2, hwl2, HO9, hb9⟩
        case measure => simp [intOf]; omega
      · have hwl2 : Hid ((wd ++ { data := #[110] } : ByteArray).data.toList = 45 :: (List.replicate k 97 ++ [110])) := by
          show _ = _
          rw [cat_list, unhide hwl]; rfl
        have hws : wd.size ≤ 300 := by omega
        have hwz2 : Hid ((wd ++ { data := #[110] } : ByteArray).size = k + 2) := by
          show _ = _
          rw [← size_len, unhide hwl2]; simp
        clear hwz
        go_wp2_with (at_builtin; refine wpList_append_own _ rfl _ _ 26 rfl w2.heap.size 35 i0 _ 2 24 Try.underlying26 hi hi0 hi1 hi2 rfl (by decide) _ _ _ rfl (hown.alloc _) ⟨wr.heap.size, 0, none⟩ 1 1 [.int .u8 110, .string s] rfl rfl (pair_new _ _ _ _) (pair_one _ _ _) (by unfold maxLen; omega) (by omega) (by simp; omega) ?_; intro v' w9 hown9 hg9 hnil9; have hb9 : Below w2.heap.size w2 w9 := (hnx.alloc hsz _).grown hg9 (by simp; omega) (fun j hj => (hown.lt j hj).1); rw [← fcl_snoc] at hown9; obtain ⟨av, cv, rfl, hfv⟩ := fx_own_n (n := k + 1) hown9 (by simp [aFl_length]); have HV := hide hfv; clear hfv hown9 hg9 hnil9 hown hnx)
        obtain ⟨wn, hwn⟩ : ∃ wn, wn = wd ++ { data := #[110] } := ⟨_, rfl⟩
        rw [← hwn] at hwl2 hwz2
        have HWN := hide hwn
        have hnz := unhide hwz2
        have htot : Hid (tot [wn, s, { data := #[45] }, { data := #[45, 97] }] ≤ 4194304) := by
          show _ ≤ _
          have e1 : tot [{ data := #[45] }, { data := #[45, 97] }] = 3 := by decide
          have e2 : tot [wn, s, { data := #[45] }, { data := #[45, 97] }] = wn.size + (s.size + tot [{ data := #[45] }, { data := #[45, 97] }]) := rfl
          rw [e2, e1, hnz]; omega
        rw [← hwn]
        clear hwn hnz
        refine (parse_isn (k + 1) 2 (told_next k wn s (unhide hwl2)) (by simp [aFl_length]) rfl _ _ _ _ (by exact tx_lit _ [wn, s, { data := #[45] }, { data := #[45, 97] }] _) (by decide) (by decide) (mem_small (unhide htot)) (fun _ => unhide htot)).mono ?_
        rintro e w10 ⟨⟨af, cf, at', ct, rfl, hF, hT⟩, hb⟩
        have hb10 : Below w9.heap.size w9 w10 := ((Below.refl _ _).alloc (Nat.le_refl _) _).trans (hb.mono (by simp))
        have hB10 : Below w.heap.size w w10 := (hB2.trans (hb9.mono hB2.size)).trans (hb10.mono (by have := hB2.size; have := hb9.size; omega))
        have HV10 := hide ((unhide HV).below hb10)
        have HF := hide hF
        have HT := hide hT
        clear hb hF hT hb9 hb10 HV htot hB2
        go_wp2_with fail
        refine (sameFlags_any _ _ (k + 1) _ _ _ _ (by omega) (unhide HF) (unhide HV10)).mono ?_
        rintro e w11 ⟨rfl, hb11⟩
        have hB11 : Below w.heap.size w w11 := hB10.trans (hb11.mono hB10.size)
        have HV11 := hide ((unhide HV10).below hb11)
        have HT11 := hide ((unhide HT).below hb11)
        clear hb11 HF HT HV10 hB10
        have hal : ∀ o, Below w11.heap.size w11 (w11.alloc o) := fun o => (Below.refl _ _).alloc (Nat.le_refl _) o
        go_wp2_with fail
        refine (sameTexts_any _ _ 2 _ _ ct 2 [{ data := #[45] }, { data := #[45, 97] }] _ (by decide) ((unhide HT11).below (hal _)) (by exact tx_lit _ [{ data := #[45] }, { data := #[45, 97] }] _)).mono ?_
        rintro e w12 ⟨rfl, hb⟩
        have hb12 : Below w11.heap.size w11 w12 := (hal _).trans (hb.mono (by simp))
        have hB12 : Below w.heap.size w w12 := hB11.trans (hb12.mono hB11.size)
        have HV12 := hide ((unhide HV11).below hb12)
        have HT12 := hide ((unhide HT11).below hb12)
        clear hb hb12 hal HV11 HT11 hB11
        by_cases hemp : s.data.toList = []
        · have hx : s.toList.isEmpty = true := by rw [ByteArray.toList_eq, hemp]; rfl
          clear hemp
          go_wp2_with fail
          go_ret
          exact ⟨rfl, hB12⟩
        · have hx : s.toList.isEmpty = false := by
            rw [ByteArray.toList_eq]
            cases hl : s.data.toList with
            | nil => exact absurd hl hemp
            | cons _ _ => rfl
          have hws2 : Hid ((wn ++ s).data.toList = 45 :: (List.replicate k 97 ++ 110 :: s.data.toList)) := by
            show _ = _
            rw [cat_list, unhide hwl2]; simp
          have hnz := unhide hwz2
          have hwz3 : Hid ((wn ++ s).size ≤ 1048576 + 300) := by
            show _ ≤ _
            rw [← size_len, cat_list, List.length_append, size_len, size_len, hnz]; omega
          have hnz' : wn.size ≤ 300 := by omega
          have HE := hide hemp
          clear hnz hemp
          go_wp2_with fail
          have htot : Hid (tot [wn ++ s, { data := #[45] }, { data := #[45, 97] }] ≤ 4194304) := by
            show _ ≤ _
            have e1 : tot [{ data := #[45] }, { data := #[45, 97] }] = 3 := by decide
            have e2 : tot [wn ++ s, { data := #[45] }, { data := #[45, 97] }] = (wn ++ s).size + tot [{ data := #[45] }, { data := #[45, 97] }] := rfl
            rw [e2, e1]
            have := unhide hwz3
            omega
          refine (parse_isn (k + 1) 2 (told_same k (wn ++ s) s (unhide HE) (unhide hws2)) (by simp [aFl_length]) rfl _ _ _ _ (by exact tx_lit _ [wn ++ s, { data := #[45] }, { data := #[45, 97] }] _) (by decide) (by decide) (mem_small (unhide htot)) (fun _ => unhide htot)).mono ?_
          rintro e w13 ⟨⟨af2, cf2, at2, ct2, rfl, hF, hT⟩, hb⟩
          have hb13 : Below w12.heap.size w12 w13 := ((Below.refl _ _).alloc (Nat.le_refl _) _).trans (hb.mono (by simp))
          have hB13 : Below w.heap.size w w13 := hB12.trans (hb13.mono hB12.size)
          have HV13 := hide ((unhide HV12).below hb13)
          have HT13 := hide ((unhide HT12).below hb13)
          have HF := hide hF
          have HT := hide hT
          clear hb hF hT hb13 HV12 HT12 htot hB12
          go_wp2_with fail
          refine (sameFlags_any _ _ (k + 1) _ _ _ _ (by omega) (unhide HF) (unhide HV13)).mono ?_
          rintro e w14 ⟨rfl, hb14⟩
          have hB14 : Below w.heap.size w w14 := hB13.trans (hb14.mono hB13.size)
          have HT14 := hide ((unhide HT).below hb14)
          have HT14' := hide ((unhide HT13).below hb14)
          clear hb14 HF HT HV13 HT13 hB13
          go_wp2_with fail
          refine (sameTexts_any _ _ 2 _ _ ct2 ct [{ data := #[45] }, { data := #[45, 97] }] _ (by decide) (unhide HT14) (unhide HT14')).mono ?_
          rintro e w15 ⟨rfl, hb15⟩
          have hB15 : Below w.heap.size w w15 := hB14.trans (hb15.mono hB14.size)
          clear hb15 HT14 HT14' hB14
          go_wp2_with fail
          go_ret
          exact ⟨rfl, hB15⟩
end Go.Proofs.Ytjnlpllibpmclaa.Pa
