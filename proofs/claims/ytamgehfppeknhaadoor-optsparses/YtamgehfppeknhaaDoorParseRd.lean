/- What readWhich, isLetter, isDigit, tellsOptions and the closure that takes words answer. -/
import Derived.Test.YtamgehfppeknhaaDoorRows
import Derived.Test.YtamgehfppeknhaaDoorParsePlain
import Derived.WalkKit
import Derived.WalkSpells
import Derived.Maps.Own
import Derived.Maps.OwnOps
import Derived.Maps.Views
namespace Go.Proofs.YtamgehfppeknhaaDoor.Pa
open Go.RowKit Go.Maps

theorem isDigit_any (c : Int) (w : World) (h0 : 0 ≤ c) (h1 : c < 256) :
    Calls Tryd.prog 59 #[.int .u8 c] w fun e w' => e = .returned (.bool (decide (48 ≤ c ∧ c ≤ 57))) ∧ w' = w := by
  by_cases a : 48 ≤ c
  · by_cases b : c ≤ 57
    · go_enter Tryd.func59, Tryd.ntmps59
      go_wp2
      go_ret
      exact ⟨by simp [a, b], rfl⟩
    · go_enter Tryd.func59, Tryd.ntmps59
      go_wp2
      go_ret
      exact ⟨by simp; omega, rfl⟩
  · go_enter Tryd.func59, Tryd.ntmps59
    go_wp2
    go_ret
    exact ⟨by simp; omega, rfl⟩

theorem isLetter_any (c : Int) (w : World) (h0 : 0 ≤ c) (h1 : c < 256) :
    Calls Tryd.prog 58 #[.int .u8 c] w fun e w' => e = .returned (.bool (decide ((65 ≤ c ∧ c ≤ 90) ∨ (97 ≤ c ∧ c ≤ 122)))) ∧ w' = w := by
  rcases (show c < 65 ∨ (65 ≤ c ∧ c ≤ 90) ∨ (90 < c ∧ c < 97) ∨ (97 ≤ c ∧ c ≤ 122) ∨ 122 < c from by omega) with h | ⟨h, h'⟩ | ⟨h, h'⟩ | ⟨h, h'⟩ | h
  all_goals
    go_enter Tryd.func58, Tryd.ntmps58
    go_wp2
    go_ret
    refine ⟨?_, rfl⟩
    first
    | (simp; omega; done)
    | (simp; rw [Bool.eq_iff_iff]; simp; omega)

theorem tells_any (s : ByteArray) (w : World) (hs : s.size ≤ maxLen) :
    Calls Tryd.prog 17 #[.string s] w fun e w' => e = .returned (.bool (isOpt s.data.toList)) ∧ w' = w := by
  unfold maxLen at hs
  have hl : s.data.toList.length = s.size := rfl
  by_cases h : 1 < s.size
  · have e := drop_at s 0 (by omega)
    rw [List.drop_zero] at e
    by_cases h0 : s[0] = 45
    · have hx : ((s[0].toNat : Int) == 45) = true := by rw [h0]; rfl
      have ho : Hid (isOpt s.data.toList = true) := by unfold Hid isOpt; rw [hl, e]; simp [h, h0]
      clear e h0
      go_enter Tryd.func17, Tryd.ntmps17
      go_wp2
      go_ret
      exact ⟨by rw [unhide ho]; rfl, rfl⟩
    · have hx : ((s[0].toNat : Int) == 45) = false := by
        rw [beq_eq_false_iff_ne]; intro hh; apply h0; exact UInt8.toNat_inj.1 (show s[0].toNat = (45 : UInt8).toNat from by have : (45 : UInt8).toNat = 45 := rfl; omega)
      have ho : Hid (isOpt s.data.toList = false) := by unfold Hid isOpt; rw [hl, e]; simp [h0]
      clear e h0
      go_enter Tryd.func17, Tryd.ntmps17
      go_wp2
      go_ret
      exact ⟨by rw [unhide ho]; rfl, rfl⟩
  · have ho : Hid (isOpt s.data.toList = false) := by unfold Hid isOpt; rw [hl]; simp; omega
    clear hl
    go_enter Tryd.func17, Tryd.ntmps17
    go_wp2
    go_ret
    exact ⟨by rw [unhide ho]; rfl, rfl⟩

/-! ### the map of which options there are -/
theorem law8 : Keyed Tryd.prog 5 := int_keyed Tryd.underlying5
theorem zeroM (w : World) : (zeroValue 57).run Tryd.prog w = .ok (.int .i64 0) w := by kernel_rfl

/-- block b is a map in which each letter's element is K of it -/
def Mp (w : World) (b n : Nat) (K : Int → Int) : Prop :=
  ∃ D : DataW Unit, w.ownsMap Tryd.prog 5 (plainElem Tryd.prog 57) b n D ∧ IsMap D ∧ ∀ c : Int, 0 ≤ c → c ≤ 255 → D.atKey (.int .u8 c) (.lit (.int .i64 0)) = .lit (.int .i64 (K c))

theorem wf8 {c : Int} (h0 : 0 ≤ c) (h1 : c ≤ 255) : (Lit.int .u8 c).wf = true := by simp [Lit.wf, IntKind.min, IntKind.max, IntKind.signed, IntKind.bits]; omega

theorem Mp.look {w : World} {b n : Nat} {K : Int → Int} (h : Mp w b n K) {c : Int} (h0 : 0 ≤ c) (h1 : c ≤ 255) :
    (Instr.lookup 51 (.map (some b)) (.int .u8 c) false).run Tryd.prog w = .ok (.int .i64 (K c)) w := by
  obtain ⟨D, hD, _, hK⟩ := h
  obtain ⟨v, hrun, hat, _⟩ := hD.lookup_int law8 Tryd.underlying51 Tryd.underlying57 (zeroM w) (keyOf_int_mk Tryd.underlying5 (wf8 h0 h1))
  rw [hK c h0 h1] at hat
  simp at hat
  rw [hrun, hat]

theorem Mp.update {w : World} {b n : Nat} {K : Int → Int} (h : Mp w b n K) {c v : Int} (h0 : 0 ≤ c) (h1 : c ≤ 255) (hn : n < maxLen) (hv : v = 1 ∨ v = 2) :
    ∃ w', (Instr.mapUpdate 51 (.map (some b)) (.int .u8 c) (.int .i64 v)).run Tryd.prog w = .ok () w' ∧ Mp w' b (n + 1) (upd K c v) ∧ w.grownBy w' (some b) := by
  obtain ⟨D, hD, hm, hK⟩ := h
  have hwv : (Lit.int .i64 v).wf = true := by rcases hv with rfl | rfl <;> rfl
  obtain ⟨w', hrun, hD', hg⟩ := hD.update law8 Tryd.underlying51 hn (keyOf_int_mk Tryd.underlying5 (wf8 h0 h1)) (plainElem_int Tryd.underlying57 hwv)
  refine ⟨w', hrun, ⟨_, hD', hm.put _ _, fun x hx0 hx1 => ?_⟩, hg⟩
  unfold upd
  by_cases e : x = c
  · subst e
    rw [if_pos rfl]
    exact atKey_put_same hm (by simp [WideAt.IsKeyLit]) _ _
  · rw [if_neg e, atKey_put_other (by simpa using e), hK x hx0 hx1]

theorem Mp.made (w : World) : Mp (w.alloc (.map #[] 0)) w.heap.size 0 (fun _ => 0) :=
  ⟨.map [], World.ownsMap_made _ _ _ _, isMap_empty, fun _ _ _ => rfl⟩
theorem Mp.kept {w w' : World} {b n : Nat} {K : Int → Int} {row : Option Nat} (h : Mp w b n K) (hg : w.grownBy w' row) (hne : some b ≠ row) : Mp w' b n K := by
  obtain ⟨D, hD, hm, hK⟩ := h
  exact ⟨D, hD.kept hg hne, hm, hK⟩
theorem Mp.lt {w : World} {b n : Nat} {K : Int → Int} (h : Mp w b n K) : b < w.heap.size := by
  obtain ⟨D, hD, _⟩ := h
  exact hD.lt

theorem isDigit_b (b : Bool) (c : Int) (w : World) (h0 : 0 ≤ c) (h1 : c < 256) (h : decide (48 ≤ c ∧ c ≤ 57) = b) :
    Calls Tryd.prog 59 #[.int .u8 c] w fun e w' => e = .returned (.bool b) ∧ w' = w := h ▸ isDigit_any c w h0 h1
theorem isLetter_b (b : Bool) (c : Int) (w : World) (h0 : 0 ≤ c) (h1 : c < 256) (h : decide ((65 ≤ c ∧ c ≤ 90) ∨ (97 ≤ c ∧ c ≤ 122)) = b) :
    Calls Tryd.prog 58 #[.int .u8 c] w fun e w' => e = .returned (.bool b) ∧ w' = w := h ▸ isLetter_any c w h0 h1

theorem okL_split (c : Int) : (decide ((65 ≤ c ∧ c ≤ 90) ∨ (97 ≤ c ∧ c ≤ 122)) = true ∧ okL c = true) ∨
    (decide ((65 ≤ c ∧ c ≤ 90) ∨ (97 ≤ c ∧ c ≤ 122)) = false ∧ decide (48 ≤ c ∧ c ≤ 57) = true ∧ okL c = true) ∨
    (decide ((65 ≤ c ∧ c ≤ 90) ∨ (97 ≤ c ∧ c ≤ 122)) = false ∧ decide (48 ≤ c ∧ c ≤ 57) = false ∧ okL c = false) := by
  unfold okL
  by_cases h1 : (65 ≤ c ∧ c ≤ 90) ∨ (97 ≤ c ∧ c ≤ 122)
  · exact .inl ⟨by simp [h1], decide_eq_true (by omega)⟩
  · by_cases h2 : 48 ≤ c ∧ c ≤ 57
    · exact .inr (.inl ⟨decide_eq_false h1, decide_eq_true h2, decide_eq_true (by omega)⟩)
    · exact .inr (.inr ⟨decide_eq_false h1, decide_eq_false h2, decide_eq_false (by omega)⟩)

theorem upd_upd (K : Int → Int) (c a b : Int) : upd (upd K c a) c b = upd K c b := by
  funext x; unfold upd; split <;> rfl

/-- what readWhich leaves -/
def RdPost (w : World) (s : ByteArray) (e : Ending) (w' : World) : Prop :=
  ((rd s.data.toList (fun _ => 0) = none ∧ e = .returned (.tuple #[.map none, .bool false])) ∨
   ∃ K n, rd s.data.toList (fun _ => 0) = some K ∧ e = .returned (.tuple #[.map (some w.heap.size), .bool true]) ∧ Mp w' w.heap.size n K) ∧ Below w.heap.size w w'

set_option maxHeartbeats 1000000 in
set_option maxRecDepth 100000 in
theorem readWhich_any (s : ByteArray) (w : World) (hs : s.size ≤ 4611686018427387900) :
    Calls Tryd.prog 15 #[.string s] w (RdPost w s) := by
  have hmm := @run_makeMap Tryd.prog
  go_enter Tryd.func15, Tryd.ntmps15
  go_wp2
  clear hmm
  go_loopw [5] (fun i wr => ∃ (k n : Nat) (K : Int → Int), k ≤ s.size ∧ i = .int .i64 k ∧ n ≤ 2 * k ∧ Hid (Mp wr w.heap.size n K) ∧ Below w.heap.size w wr ∧ w.heap.size < wr.heap.size ∧
      Hid (rd (s.data.toList.drop k) K = rd s.data.toList (fun _ => 0))) (fun i _ => s.size - (intOf i).toNat)
  case atStart => exact ⟨0, 0, fun _ => 0, Nat.zero_le _, rfl, Nat.zero_le _, Mp.made w, (Below.refl _ _).alloc (Nat.le_refl _) _, by simp, rfl⟩
  case round =>
    obtain ⟨k, n, K, hk, rfl, hn, hM, hnx, hlt0, hR⟩ := hrel
    by_cases hlt : k < s.size
    · have hc0 : (0 : Int) ≤ (s[k].toNat : Int) := by omega
      have hc1 : (s[k].toNat : Int) < 256 := by have := s[k].toNat_lt; omega
      have hlook := (unhide hM).look hc0 (by omega)
      by_cases hK : K (s[k].toNat : Int) = 0
      · have hKx : (K (s[k].toNat : Int) != 0) = false := by simp [hK]
        rw [hK] at hlook
        obtain ⟨w1, hr1, hM1, hg1⟩ := (unhide hM).update (v := 1) hc0 (by omega) (by unfold maxLen; omega) (.inl rfl)
        have hM1 := hide hM1
        rcases okL_split (s[k].toNat : Int) with ⟨h1, ho⟩ | ⟨h1, h2, ho⟩ | ⟨h1, h2, ho⟩
        · have H1 := hide h1
          clear h1
          have HO := hide ho
          have HK := hide hK
          clear ho hK
          have hb1 : Below w.heap.size w w1 := hnx.grown hg1 hnx.size (by simp)
          have hs1 : w.heap.size < w1.heap.size := (unhide hM1).lt
          rcases (show k + 1 = s.size ∨ k + 1 < s.size from by omega) with hx | hx
          · have hR1 : Hid (rd (s.data.toList.drop (k + 1)) (upd K (s[k].toNat : Int) 1) = rd s.data.toList (fun _ => 0)) := by rw [← unhide hR]; exact (rd_last s k K hx (unhide HO) (unhide HK)).symm
            have hy : ¬ ((k : Int) + 1 < (s.size : Int)) := by omega
            clear hR hx
            go_wp2_with fail
            refine (isLetter_b true _ _ hc0 hc1 (unhide H1)).mono ?_
            rintro e w' ⟨rfl, rfl⟩
            go_wp2_with fail
            go_roundw
            case rel => exact ⟨k + 1, n + 1, _, by omega, by go_num, by omega, hM1, hb1, hs1, hR1⟩
            case measure => simp [intOf]; omega
          · by_cases h58 : (s[k + 1].toNat : Int) = 58
            · have hR1 : Hid (rd (s.data.toList.drop (k + 2)) (upd K (s[k].toNat : Int) 2) = rd s.data.toList (fun _ => 0)) := by rw [← unhide hR]; exact (rd_two s k K hx (unhide HO) (unhide HK) (by omega)).symm
              have hy : (k : Int) + 1 < (s.size : Int) := by omega
              have hz : ((s[k + 1].toNat : Int) == 58) = true := by simp [h58]
              obtain ⟨w2, hr2, hM2, hg2⟩ := (unhide hM1).update (v := 2) hc0 (by omega) (by unfold maxLen; omega) (.inr rfl)
              have hM2 := hide hM2
              have hb2 : Below w.heap.size w w2 := hb1.grown hg2 hb1.size (by simp)
              have hs2 : w.heap.size < w2.heap.size := (unhide hM2).lt
              rw [upd_upd] at hM2
              clear hR h58 hg2 hb1 hs1
              go_wp2_with fail
              refine (isLetter_b true _ _ hc0 hc1 (unhide H1)).mono ?_
              rintro e w' ⟨rfl, rfl⟩
              go_wp2_with fail
              go_roundw
              case rel => exact ⟨k + 2, n + 2, _, by omega, by go_num, by omega, hM2, hb2, hs2, hR1⟩
              case measure => simp [intOf]; omega
            · have hR1 : Hid (rd (s.data.toList.drop (k + 1)) (upd K (s[k].toNat : Int) 1) = rd s.data.toList (fun _ => 0)) := by rw [← unhide hR]; exact (rd_one s k K hx (unhide HO) (unhide HK) (by omega)).symm
              have hy : (k : Int) + 1 < (s.size : Int) := by omega
              have hz : ((s[k + 1].toNat : Int) == 58) = false := by simp [h58]
              clear hR h58
              go_wp2_with fail
              refine (isLetter_b true _ _ hc0 hc1 (unhide H1)).mono ?_
              rintro e w' ⟨rfl, rfl⟩
              go_wp2_with fail
              go_roundw
              case rel => exact ⟨k + 1, n + 1, _, by omega, by go_num, by omega, hM1, hb1, hs1, hR1⟩
              case measure => simp [intOf]; omega
        · have H1 := hide h1
          have H2 := hide h2
          clear h1 h2
          have HO := hide ho
          have HK := hide hK
          clear ho hK
          have hb1 : Below w.heap.size w w1 := hnx.grown hg1 hnx.size (by simp)
          have hs1 : w.heap.size < w1.heap.size := (unhide hM1).lt
          rcases (show k + 1 = s.size ∨ k + 1 < s.size from by omega) with hx | hx
          · have hR1 : Hid (rd (s.data.toList.drop (k + 1)) (upd K (s[k].toNat : Int) 1) = rd s.data.toList (fun _ => 0)) := by rw [← unhide hR]; exact (rd_last s k K hx (unhide HO) (unhide HK)).symm
            have hy : ¬ ((k : Int) + 1 < (s.size : Int)) := by omega
            clear hR hx
            go_wp2_with fail
            refine (isLetter_b false _ _ hc0 hc1 (unhide H1)).mono ?_
            rintro e w' ⟨rfl, rfl⟩
            go_wp2_with fail
            refine (isDigit_b true _ _ hc0 hc1 (unhide H2)).mono ?_
            rintro e w' ⟨rfl, rfl⟩
            go_wp2_with fail
            go_roundw
            case rel => exact ⟨k + 1, n + 1, _, by omega, by go_num, by omega, hM1, hb1, hs1, hR1⟩
            case measure => simp [intOf]; omega
          · by_cases h58 : (s[k + 1].toNat : Int) = 58
            · have hR1 : Hid (rd (s.data.toList.drop (k + 2)) (upd K (s[k].toNat : Int) 2) = rd s.data.toList (fun _ => 0)) := by rw [← unhide hR]; exact (rd_two s k K hx (unhide HO) (unhide HK) (by omega)).symm
              have hy : (k : Int) + 1 < (s.size : Int) := by omega
              have hz : ((s[k + 1].toNat : Int) == 58) = true := by simp [h58]
              obtain ⟨w2, hr2, hM2, hg2⟩ := (unhide hM1).update (v := 2) hc0 (by omega) (by unfold maxLen; omega) (.inr rfl)
              have hM2 := hide hM2
              have hb2 : Below w.heap.size w w2 := hb1.grown hg2 hb1.size (by simp)
              have hs2 : w.heap.size < w2.heap.size := (unhide hM2).lt
              rw [upd_upd] at hM2
              clear hR h58 hg2 hb1 hs1
              go_wp2_with fail
              refine (isLetter_b false _ _ hc0 hc1 (unhide H1)).mono ?_
              rintro e w' ⟨rfl, rfl⟩
              go_wp2_with fail
              refine (isDigit_b true _ _ hc0 hc1 (unhide H2)).mono ?_
              rintro e w' ⟨rfl, rfl⟩
              go_wp2_with fail
              go_roundw
              case rel => exact ⟨k + 2, n + 2, _, by omega, by go_num, by omega, hM2, hb2, hs2, hR1⟩
              case measure => simp [intOf]; omega
            · have hR1 : Hid (rd (s.data.toList.drop (k + 1)) (upd K (s[k].toNat : Int) 1) = rd s.data.toList (fun _ => 0)) := by rw [← unhide hR]; exact (rd_one s k K hx (unhide HO) (unhide HK) (by omega)).symm
              have hy : (k : Int) + 1 < (s.size : Int) := by omega
              have hz : ((s[k + 1].toNat : Int) == 58) = false := by simp [h58]
              clear hR h58
              go_wp2_with fail
              refine (isLetter_b false _ _ hc0 hc1 (unhide H1)).mono ?_
              rintro e w' ⟨rfl, rfl⟩
              go_wp2_with fail
              refine (isDigit_b true _ _ hc0 hc1 (unhide H2)).mono ?_
              rintro e w' ⟨rfl, rfl⟩
              go_wp2_with fail
              go_roundw
              case rel => exact ⟨k + 1, n + 1, _, by omega, by go_num, by omega, hM1, hb1, hs1, hR1⟩
              case measure => simp [intOf]; omega
        · have H1 := hide h1
          have H2 := hide h2
          have hR1 : Hid (rd s.data.toList (fun _ => 0) = none) := by rw [← unhide hR]; exact rd_no s k K hlt (by rw [ho]; simp)
          clear h1 h2 hR ho hK
          go_wp2_with fail
          refine (isLetter_b false _ _ hc0 hc1 (unhide H1)).mono ?_
          rintro e w' ⟨rfl, rfl⟩
          go_wp2_with fail
          refine (isDigit_b false _ _ hc0 hc1 (unhide H2)).mono ?_
          rintro e w' ⟨rfl, rfl⟩
          go_wp2_with fail
          go_ret2
          exact ⟨.inl ⟨unhide hR1, rfl⟩, hnx⟩
      · have hKx : (K (s[k].toNat : Int) != 0) = true := by simp [hK]
        have hR1 : Hid (rd s.data.toList (fun _ => 0) = none) := by rw [← unhide hR]; exact rd_no s k K hlt (by simp [hK])
        clear hR hK
        rcases okL_split (s[k].toNat : Int) with ⟨h1, ho⟩ | ⟨h1, h2, ho⟩ | ⟨h1, h2, ho⟩
        · have H1 := hide h1
          clear h1 ho
          go_wp2_with fail
          refine (isLetter_b true _ _ hc0 hc1 (unhide H1)).mono ?_
          rintro e w' ⟨rfl, rfl⟩
          go_wp2_with fail
          go_ret2
          exact ⟨.inl ⟨unhide hR1, rfl⟩, hnx⟩
        · have H1 := hide h1
          have H2 := hide h2
          clear h1 ho h2
          go_wp2_with fail
          refine (isLetter_b false _ _ hc0 hc1 (unhide H1)).mono ?_
          rintro e w' ⟨rfl, rfl⟩
          go_wp2_with fail
          refine (isDigit_b true _ _ hc0 hc1 (unhide H2)).mono ?_
          rintro e w' ⟨rfl, rfl⟩
          go_wp2_with fail
          go_ret2
          exact ⟨.inl ⟨unhide hR1, rfl⟩, hnx⟩
        · have H1 := hide h1
          have H2 := hide h2
          clear h1 ho h2
          go_wp2_with fail
          refine (isLetter_b false _ _ hc0 hc1 (unhide H1)).mono ?_
          rintro e w' ⟨rfl, rfl⟩
          go_wp2_with fail
          refine (isDigit_b false _ _ hc0 hc1 (unhide H2)).mono ?_
          rintro e w' ⟨rfl, rfl⟩
          go_wp2_with fail
          go_ret2
          exact ⟨.inl ⟨unhide hR1, rfl⟩, hnx⟩
    · go_wp2
      go_ret2
      refine ⟨.inr ⟨K, n, ?_, rfl, unhide hM⟩, hnx⟩
      rw [← unhide hR]
      exact rd_end s k K (by omega)
end Go.Proofs.YtamgehfppeknhaaDoor.Pa
