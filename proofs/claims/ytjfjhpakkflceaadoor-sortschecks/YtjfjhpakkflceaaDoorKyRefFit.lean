/- What the document's fit answers. -/
import Derived.Test.YtjfjhpakkflceaaDoorKyComp
import Derived.Test.YtjfjhpakkflceaaDoorKyRefParts
namespace Go.Proofs.YtjfjhpakkflceaaDoor.Ky
open Go.RowKit Go.Shelf

attribute [local go_sem] Oper.semAt_some

theorem OR.other {W : World} {k b i : Nat} {o : Ord} (h : OR W k o) (hb : b ≠ k) (v : Value) : OR (W.setCell ⟨b, i, none⟩ v) k o := by
  unfold OR at *
  show (W.heap.modify b _)[k]? = _
  rw [Array.getElem?_modify, if_neg hb]; exact h
/-- where the key begins, blanks left out or not -/
def fitAt (o : Ord) (s : Bs) : Nat := if o.bls = true then upto bl s 0 else 0
theorem fit_at (o : Ord) (s : Bs) : fit o s = (s.drop (fitAt o s)).map (fun c => if o.fold = true then up c else c) := by
  unfold fit fitAt
  cases o.bls
  · simp
  · simp only [if_true]
    have := upto_drop bl s 0
    rw [List.drop_zero] at this
    rw [this]
theorem fit_small {o : Ord} (h : o.fold = false) (s : Bs) : fit o s = s.drop (fitAt o s) := by
  rw [fit_at, h]; simp
theorem fit_great {o : Ord} (h : o.fold = true) (s : Bs) : fit o s = (s.drop (fitAt o s)).map up := by
  rw [fit_at, h]; simp

set_option maxRecDepth 100000 in
set_option maxHeartbeats 1000000 in
theorem rfit_any (o : Ord) (s : ByteArray) (w : World) (hs : s.size ≤ 1073741824) :
    Calls Tryd.prog 76 #[ov o, .string s] w fun e w' => e = .returned (.string (Ln.bt (fit o s.data.toList))) ∧ Below w.heap.size w w' := by
  have C : Hid (∀ (c : UInt8) (w : World), Calls Tryd.prog 79 #[.int .u8 (c.toNat : Int)] w fun e w' => e = .returned (.bool (bl c)) ∧ w' = w) := rblank_any
  obtain ⟨m, hm⟩ : ∃ m, m = fitAt o s.data.toList := ⟨_, rfl⟩
  have hml : m ≤ s.size := by
    rw [hm]; unfold fitAt
    split
    · exact (upto_le bl s.data.toList 0 (Nat.zero_le _)).2
    · exact Nat.zero_le _
  obtain ⟨Q, hQ⟩ : ∃ Q, Q = s.extract m s.size := ⟨_, rfl⟩
  have hQd : Q.data.toList = s.data.toList.drop m := by rw [hQ, ← Ln.bt_drop']; rfl
  have hQs : Q.size ≤ s.size := by
    have : Q.size = Q.data.toList.length := rfl
    rw [this, hQd, List.length_drop]
    have : s.data.toList.length = s.size := rfl
    omega
  have HQ := hide hQ.symm
  have hres1 : Hid (o.fold = false → Ln.bt (fit o s.data.toList) = Q) := fun h => by rw [fit_small h, ← hm, ← hQd]; rfl
  have hres2 : Hid (o.fold = true → Ln.bt (fit o s.data.toList) = Ln.bt (Q.data.toList.map up)) := fun h => by rw [fit_great h, ← hm, ← hQd]
  obtain ⟨R, hR⟩ : ∃ R, R = Ln.bt (fit o s.data.toList) := ⟨_, rfl⟩
  rw [← hR] at hres1 hres2 ⊢
  have HM : Hid (o.bls = true → m = upto bl s.data.toList 0) := fun h => by rw [hm]; unfold fitAt; rw [if_pos h]
  have HM0 : Hid (o.bls = false → m = 0) := fun h => by rw [hm]; unfold fitAt; rw [h]; rfl
  have p0 := hide (OR.new w o)
  have B0 : Hid (Below w.heap.size w (w.alloc (.cells #[.bool o.num, .bool o.fold, .bool o.bls, .bool o.rev, .int .i64 o.fr, .int .i64 o.«to», .int .u8 (o.sep.toNat : Int)] 23))) := (Below.refl _ _).alloc (Nat.le_refl _) _
  obtain ⟨w0, hw0⟩ : ∃ w0, w0 = w.alloc (.cells #[.bool o.num, .bool o.fold, .bool o.bls, .bool o.rev, .int .i64 o.fr, .int .i64 o.«to», .int .u8 (o.sep.toNat : Int)] 23) := ⟨_, rfl⟩
  rw [← hw0] at p0 B0
  have hk0 : w.heap.size < w0.heap.size := by rw [hw0]; simp
  unfold ov
  clear hm hQ hR hQd
  go_enter Tryd.func76, Tryd.ntmps76
  go_upto_block 0 with fail
  rw [← hw0]
  clear hw0
  obtain ⟨d0, d1, d2, d3, d4, d5, d6⟩ := (unhide p0).cells
  go_cut [5] (fun v wx => w0 = wx ∧ v = .int .i64 (m : Int))
  case first =>
    have hm1 := unhide HM
    have hm0 := unhide HM0
    clear HM HM0 hres1 hres2 HQ p0
    obtain ⟨bb, hbb⟩ : ∃ b, b = o.bls := ⟨_, rfl⟩
    rw [← hbb] at d2 hm1 hm0
    clear hbb
    cases bb
    · obtain rfl := hm0 rfl
      clear hm1 hm0
      go_wp2_with fail
      go_loopg [5] s.size (fun g v wx => w0 = wx ∧ v = .int .i64 ((0 : Nat) : Int))
      case atStart => exact ⟨rfl, rfl⟩
      case round =>
        obtain ⟨rfl, rfl⟩ := hrel
        go_wp2_with fail
        go_meet
        exact ⟨rfl, rfl⟩
    · have HN1 := hide (hm1 rfl)
      clear hm1 hm0
      go_wp2_with fail
      go_loopg [5] s.size (fun g v wx => w0 = wx ∧ ∃ k : Nat, k ≤ s.size ∧ g = s.size - k ∧ v = .int .i64 k ∧ Hid (m = upto bl s.data.toList k))
      case atStart => exact ⟨rfl, 0, Nat.zero_le _, rfl, rfl, HN1⟩
      case round =>
        obtain ⟨rfl, k, hk, rfl, rfl, hu⟩ := hrel
        clear HN1
        by_cases hlt : k < s.size
        · have hlt' : (k : Int) < (s.size : Int) := by omega
          have HC := hide (unhide C s[k])
          cases hp : bl s[k]
          · rw [hp] at HC
            have hu2 := hide ((unhide hu).trans (upto_stop hlt hp))
            clear hp hu C
            go_wp2_with fail
            refine (unhide HC _).mono ?_
            rintro e w' ⟨rfl, hw⟩
            rw [hw]
            go_wp2_with fail
            go_meet
            exact ⟨rfl, by rw [unhide hu2]⟩
          · rw [hp] at HC
            have hu2 := hide ((unhide hu).trans (upto_step hlt hp))
            clear hp hu C
            go_wp2_with fail
            refine (unhide HC _).mono ?_
            rintro e w' ⟨rfl, hw⟩
            rw [hw]
            go_wp2_with fail
            go_roundg (s.size - (k + 1))
            case measure => omega
            case rel => exact ⟨rfl, k + 1, by omega, rfl, by go_num, hu2⟩
        · have hlt' : ¬ (k : Int) < (s.size : Int) := by omega
          have hu2 := hide ((unhide hu).trans (upto_end (by omega)))
          clear hu C
          go_wp2_with fail
          go_meet
          exact ⟨rfl, by rw [unhide hu2]⟩
  case rest =>
    obtain ⟨rfl, rfl⟩ := hcut
    clear C HM HM0 d0 d1 d2 d3 d4 d5 d6
    have hcv := run_bytes_of_string w0 9 80 5 Q Tryd.underlying9 Tryd.underlying80 Tryd.underlying5
    obtain ⟨c, hc⟩ : ∃ c, c = grownCap w0 Q.size 0 5 := ⟨_, rfl⟩
    rw [← hc] at hcv
    have hR0 := hide (Rw.new Q w0 c)
    have hB0 : Hid (Below w.heap.size w (w0.drew.alloc (.cells (bytesRow Q c) 5 ((bytesRow Q c).size, (bytesRow Q c).size + 1)))) := ((unhide B0).drew).alloc (Nat.le_of_lt hk0) _
    have p1 : Hid (OR (w0.drew.alloc (.cells (bytesRow Q c) 5 ((bytesRow Q c).size, (bytesRow Q c).size + 1))) w.heap.size o) := OR.alloc (W := w0.drew) (unhide p0) _
    generalize w0.drew.alloc (.cells (bytesRow Q c) 5 ((bytesRow Q c).size, (bytesRow Q c).size + 1)) = w1 at *
    have hq := unhide HQ
    have hne : w0.heap.size ≠ w.heap.size := by omega
    have HNE := hide hne
    clear hc p0 B0 HQ hne
    go_wp2_with fail
    clear hcv hq
    obtain ⟨ff, hff⟩ : ∃ b, b = o.fold := ⟨_, rfl⟩
    have HFF := hide hff.symm
    rw [← hff] at hres1 hres2
    clear hff
    cases ff
    · obtain rfl := (unhide hres1 rfl).symm
      have hbk := (unhide hR0).back (c := c)
      rw [show Q.data.toList.length = Q.size from rfl, show Ln.bt Q.data.toList = Q from rfl] at hbk
      obtain ⟨d0, d1, d2, d3, d4, d5, d6⟩ := (unhide p1).cells
      rw [unhide HFF] at d1
      clear hres1 hres2 hR0 p1 HNE HFF
      go_loopg [7] Q.size (fun g i wr => w1 = wr ∧ ∃ k : Nat, k ≤ Q.size ∧ g = Q.size - k ∧ i = .int .i64 k)
      case atStart => exact ⟨rfl, 0, Nat.zero_le _, rfl, rfl⟩
      case round =>
        obtain ⟨rfl, k, hk, rfl, rfl⟩ := hrel
        by_cases hlt : k < Q.size
        · have hlt' : (k : Int) < (Q.size : Int) := by omega
          clear hbk
          go_wp2_with fail
          go_roundg (Q.size - (k + 1))
          case measure => omega
          case rel => exact ⟨rfl, k + 1, by omega, rfl, by go_num⟩
        · have hlt' : ¬ (k : Int) < (Q.size : Int) := by omega
          go_wp2_with fail
          go_ret
          exact ⟨rfl, unhide hB0⟩
    · obtain rfl := (unhide hres2 rfl).symm
      clear hres1 hres2
      go_loopg [7] Q.size (fun g i wr => ∃ k : Nat, k ≤ Q.size ∧ g = Q.size - k ∧ i = .int .i64 k ∧ Hid (Rw wr w0.heap.size (upTo Q.data.toList k)) ∧ Hid (OR wr w.heap.size o) ∧ Hid (Below w.heap.size w wr))
      case atStart => exact ⟨0, Nat.zero_le _, rfl, rfl, by simpa [upTo] using hR0, p1, hB0⟩
      case round =>
        clear hR0 hB0 p1
        obtain ⟨k, hk, rfl, rfl, hR, hP, hB⟩ := hrel
        obtain ⟨d0, d1, d2, d3, d4, d5, d6⟩ := (unhide hP).cells
        rw [unhide HFF] at d1
        clear HFF
        by_cases hlt : k < Q.size
        · have hlt' : (k : Int) < (Q.size : Int) := by omega
          have hll : k < Q.data.toList.length := hlt
          have hl2 : k < (upTo Q.data.toList k).length := by rw [upTo_len]; exact hll
          have hcell := (unhide hR).cell hl2
          rw [upTo_at _ _ hll, show Q.data.toList[k] = Q[k] from rfl] at hcell
          have hfz := (unhide hR).frozen hl2
          have hset := hide ((unhide hR).set (i := k) (up Q.data.toList[k]))
          rw [upTo_set _ _ hll, show Q.data.toList[k] = Q[k] from rfl] at hset
          have hsame := hide (upTo_same Q.data.toList k hll)
          rw [show Q.data.toList[k] = Q[k] from rfl] at hsame
          have h8 := Q[k].toNat_lt
          generalize Q[k] = x at *
          by_cases hL : 97 ≤ x.toNat ∧ x.toNat ≤ 122
          · have hu : (up x).toNat = x.toNat - 32 := by
              have h1 : 97 ≤ x ∧ x ≤ 122 := by rw [UInt8.le_iff_toNat_le, UInt8.le_iff_toNat_le]; exact hL
              unfold up
              rw [if_pos h1, UInt8.toNat_sub_of_le _ _ (by rw [UInt8.le_iff_toNat_le]; show 32 ≤ x.toNat; omega)]; rfl
            have hue : ((up x).toNat : Int) = (x.toNat : Int) - 32 := by omega
            rw [hue] at hset
            have l1 : (97 : Int) ≤ (x.toNat : Int) := by omega
            have l2 : (x.toNat : Int) ≤ 122 := by omega
            have hb2 : Hid (Below w.heap.size w (wr.setCell ⟨w0.heap.size, k, none⟩ (.int .u8 ((x.toNat : Int) - 32)))) := (unhide hB).setCell (p := ⟨w0.heap.size, k, none⟩) (Nat.le_of_lt hk0) _
            have hp2 : Hid (OR (wr.setCell ⟨w0.heap.size, k, none⟩ (.int .u8 ((x.toNat : Int) - 32))) w.heap.size o) := (unhide hP).other (unhide HNE) _
            clear hu hue hsame hR hB hL hP
            go_wp2_with fail
            go_roundg (Q.size - (k + 1))
            case measure => omega
            case rel => exact ⟨k + 1, by omega, rfl, by go_num, hset, hp2, hb2⟩
          · have hu : up x = x := by
              unfold up
              rw [if_neg (fun h => hL ⟨by have := UInt8.le_iff_toNat_le.1 h.1; exact this, by have := UInt8.le_iff_toNat_le.1 h.2; exact this⟩)]
            rw [unhide hsame hu] at hR
            clear hset hsame hu
            rcases (show ¬ (97 : Int) ≤ (x.toNat : Int) ∨ ((97 : Int) ≤ (x.toNat : Int) ∧ ¬ (x.toNat : Int) ≤ 122) by omega) with l1 | ⟨l1, l2⟩
            all_goals
              clear hL
              go_wp2_with fail
              go_roundg (Q.size - (k + 1))
              case measure => omega
              case rel => exact ⟨k + 1, by omega, rfl, by go_num, hR, hP, hB⟩
        · rw [upTo_all _ _ (show Q.data.toList.length ≤ k by have : Q.data.toList.length = Q.size := rfl; omega)] at hR
          have hlt' : ¬ (k : Int) < (Q.size : Int) := by omega
          have hbk := (unhide hR).back (c := c)
          rw [List.length_map, show Q.data.toList.length = Q.size from rfl] at hbk
          obtain ⟨R2, hR2⟩ : ∃ R, R = Ln.bt (Q.data.toList.map up) := ⟨_, rfl⟩
          rw [← hR2] at hbk
          have HR := hide hR2
          clear hR hR2
          go_wp2_with fail
          go_ret
          exact ⟨by rw [← unhide HR]; rfl, unhide hB⟩
end Go.Proofs.YtjfjhpakkflceaaDoor.Ky
