/- What the document's Parse answers. -/
import Derived.Test.YtijoemamnkhhnaaGreatDoorLsRefParse2
namespace Go.Proofs.YtijoemamnkhhnaaGreatDoor.Ls
open Go.RowKit Go.Shelf

theorem piece_hit {l : List UInt8} {fr i : Nat} (hfr : fr ≤ i) (hi : i < l.length) (hc : l[i] = 44) (hcl : ∀ j, fr ≤ j → j < i → l[j]? ≠ some 44) :
    splitC (l.drop fr) = ((l.drop fr).take (i - fr)) :: splitC (l.drop (i + 1)) := by
  have e : l.drop fr = ((l.drop fr).take (i - fr)) ++ 44 :: l.drop (i + 1) := by
    have h1 := (List.take_append_drop (i - fr) (l.drop fr)).symm
    rw [List.drop_drop, show fr + (i - fr) = i by omega, List.drop_eq_getElem_cons hi, hc] at h1
    exact h1
  rw [e]
  rw [splitC_hit]
  · congr 1
    rw [← e]
  · intro c hm h44
    subst h44
    obtain ⟨j, hj⟩ := List.mem_iff_getElem?.1 hm
    have hj2 : j < i - fr := by
      have := (List.getElem?_eq_some_iff.1 hj).1
      simp at this; omega
    rw [List.getElem?_take_of_lt hj2, List.getElem?_drop] at hj
    exact hcl (fr + j) (by omega) (by omega) hj
theorem piece_end {l : List UInt8} {fr : Nat} (hcl : ∀ j, fr ≤ j → j < l.length → l[j]? ≠ some 44) : splitC (l.drop fr) = [l.drop fr] := by
  refine splitC_end (fun c hm h44 => ?_)
  subst h44
  obtain ⟨j, hj⟩ := List.mem_iff_getElem?.1 hm
  have hj2 := (List.getElem?_eq_some_iff.1 hj).1
  rw [List.getElem?_drop] at hj
  exact hcl (fr + j) (by omega) (by simp at hj2; omega) hj

/-- what holds between the rounds -/
def Rp (l : List UInt8) (i fr : Nat) (d : List R) : Prop :=
  d.length ≤ i ∧ if i ≤ l.length then fr ≤ i ∧ (∀ j, fr ≤ j → j < i → l[j]? ≠ some 44) ∧ parse l = (items (splitC (l.drop fr))).map (d ++ ·) else fr = l.length + 1 ∧ parse l = some d
theorem Rp.start (l : List UInt8) : Rp l 0 0 [] := by
  unfold Rp
  rw [if_pos (by omega)]
  refine ⟨by simp, by omega, fun j h1 h2 => by omega, ?_⟩
  show parse l = _
  simp [parse]
theorem Rp.skip {l : List UInt8} {i fr : Nat} {d : List R} (h : Rp l i fr d) (hi : i < l.length) (hc : l[i] ≠ 44) : Rp l (i + 1) fr d := by
  obtain ⟨h0, h⟩ := h
  rw [if_pos (by omega)] at h
  refine ⟨by omega, ?_⟩
  rw [if_pos (by omega)]
  refine ⟨by omega, fun j h1 h2 => ?_, h.2.2⟩
  by_cases e : j = i
  · subst e; rw [List.getElem?_eq_getElem hi]; simpa using hc
  · exact h.2.1 j h1 (by omega)
theorem Rp.piece {l : List UInt8} {i fr : Nat} {d : List R} (h : Rp l i fr d) (hi : i ≤ l.length) (hc : ∀ (h : i < l.length), l[i] = 44) :
    fr ≤ i ∧ (item ((l.drop fr).take (i - fr)) = none → parse l = none) ∧ ∀ r, item ((l.drop fr).take (i - fr)) = some r → Rp l (i + 1) (i + 1) (d ++ [r]) := by
  obtain ⟨h0, h⟩ := h
  rw [if_pos hi] at h
  obtain ⟨h1, h2, h3⟩ := h
  refine ⟨h1, ?_⟩
  by_cases hlt : i < l.length
  · rw [piece_hit h1 hlt (hc hlt) h2] at h3
    refine ⟨fun hn => by rw [h3, items, hn]; rfl, fun r hr => ⟨by simp; omega, ?_⟩⟩
    rw [if_pos (by omega)]
    refine ⟨Nat.le_refl _, fun j a b => by omega, ?_⟩
    rw [h3, items, hr]
    cases items (splitC (l.drop (i + 1))) <;> simp
  · obtain rfl : i = l.length := by omega
    have e : (l.drop fr).take (l.length - fr) = l.drop fr := List.take_of_length_le (by simp)
    rw [piece_end h2] at h3
    rw [e]
    refine ⟨fun hn => by rw [h3, items, hn]; rfl, fun r hr => ⟨by simp; omega, ?_⟩⟩
    rw [if_neg (by omega)]
    refine ⟨rfl, ?_⟩
    rw [h3, items, hr]; rfl
theorem Rp.fin {l : List UInt8} {i fr : Nat} {d : List R} (h : Rp l i fr d) (hi : l.length < i) : parse l = some d := by
  obtain ⟨h0, h⟩ := h
  rw [if_neg (by omega)] at h
  exact h.2
theorem ext_mid (s : ByteArray) (a b : Nat) : bs (s.extract a b) = ((bs s).drop a).take (b - a) := by
  unfold bs; rw [Lib.extract_data]

set_option maxHeartbeats 1000000 in
set_option maxRecDepth 100000 in
theorem rparse_any (s : ByteArray) (w : World) (hs : s.size ≤ 4611686018427387904) : Calls Tryz.prog 6 #[.string s] w (ParsePost w s) := by
  by_cases hlong : 4096 < (s.size : Int)
  · have hp := hide (parse_long (s := bs s) (by rw [bs_len]; omega))
    go_enter Tryz.func6, Tryz.ntmps6
    go_wp2_with fail
    go_ret2
    exact parsePost_nix (unhide hp).1 (unhide hp).2 (Below.refl _ _)
  · have hsz : s.size ≤ 4096 := by omega
    obtain ⟨i0, hi, hz0, hz1, hz2⟩ := info_parts Tryz.infoRange
    go_enter Tryz.func6, Tryz.ntmps6
    go_wp2_with fail
    go_loopw [4, 5, 6] (fun v f i wr => ∃ (k fr n : Nat) (d : List R), k ≤ s.size + 1 ∧ fr ≤ s.size + 1 ∧ n ≤ k ∧ i = .int .i64 k ∧ f = .int .i64 fr ∧ Hid (Rp (bs s) k fr d) ∧ Hid (d.length = n) ∧ Hid (wr.ownsRow w.heap.size 53 2 v n (rc d)) ∧ Hid (Below w.heap.size w wr)) (fun _ _ i _ => s.size + 1 - (intOf i).toNat)
    case atStart => exact ⟨0, 0, 0, [], by omega, by omega, by omega, rfl, rfl, Rp.start _, rfl, World.ownsRow_nil _ _ _ _, Below.refl _ _⟩
    case round =>
      obtain ⟨k, fr, n, d, hk, hfr, hnk, rfl, rfl, hR, hdn, hrow, hB⟩ := hrel
      have hzz := (unhide hB).size
      by_cases hle : k ≤ s.size
      · have hle' : (k : Int) ≤ (s.size : Int) := by omega
        by_cases hskip : ∃ h : k < s.size, s[k] ≠ 44
        · obtain ⟨hlt, hne⟩ := hskip
          have hR2 := hide ((unhide hR).skip (i := k) (by rw [bs_len]; exact hlt) hne)
          have hb : ((s[k].toNat : Int) != 44) = true := by
            simp only [bne_iff_ne, ne_eq]
            intro e
            exact hne (UInt8.toNat_inj.1 (by simp; omega))
          have hlt' : (k : Int) < (s.size : Int) := by omega
          clear hne
          go_wp2_with fail
          go_roundw
          case rel => exact ⟨k + 1, fr, n, d, by omega, hfr, by omega, by go_num, rfl, hR2, hdn, hrow, hB⟩
          case measure => simp [intOf]; omega
        · have hc : ∀ (h : k < (bs s).length), (bs s)[k] = 44 := fun h => by
            by_cases e : (bs s)[k] = 44
            · exact e
            · exact absurd ⟨h, e⟩ hskip
          obtain ⟨hfk, hno, hyes⟩ := (unhide hR).piece (by rw [bs_len]; exact hle) hc
          have hbk : ∀ (h : k < s.size), ((s[k].toNat : Int) != 44) = false := fun h => by
            have : s[k] = 44 := hc h
            rw [this]; rfl
          have C := hide (ritem_any (s.extract fr k) wr (by simp; omega))
          rw [ext_mid] at C
          have HNO := hide hno
          have HY := hide hyes
          have hfk' : (fr : Int) ≤ (k : Int) := by omega
          clear hno hyes hskip hc hR
          by_cases hlt : k < s.size
          all_goals
            first | (have hb := hbk hlt; have hlt' : (k : Int) < (s.size : Int) := by omega) | (have hlt' : ¬ (k : Int) < (s.size : Int) := by omega)
            clear hbk
            go_wp2_with fail
            refine (unhide C).mono ?_
            rintro e w3 (⟨x1, x2, rfl, hit, hb3⟩ | ⟨x1, x2, rfl, hit, hb3⟩)
            · have HR2 := hide (unhide HY _ hit)
              have HB3 : Hid (Below w.heap.size w w3) := (unhide hB).trans (hb3.mono hzz)
              have hz3 := hb3.size
              have hr3 := hide (own_below (unhide hrow) hb3)
              have hd1 : Hid ((d ++ [(x1, x2)]).length = n + 1) := by show _ = _; simp [unhide hdn]
              clear hb3 C hrow hit
              go_wp2_with (at_builtin; refine wpList_append_own _ rfl _ _ 23 rfl w.heap.size 53 i0 _ 2 16 Tryz.underlying23 hi hz0 hz1 hz2 rfl (by decide) _ _ _ rfl (((unhide hr3).alloc _).alloc _) ⟨w3.heap.size + 1, 0, none⟩ 1 1 [.int .i64 x1, .int .i64 x2] rfl rfl (by exact pair_new2 _ _ _ _ _) (pair_one _ _) (by unfold maxLen; omega) (by omega) (by simp; omega) ?_; intro v' w4 hown4 hg4 hnil4)
              have hs2 := (unhide HB3).size
              have HB4 : Hid (Below w.heap.size w w4) := (((unhide HB3).alloc hs2 _).alloc (by simp; omega) _).grown hg4 (by simp; omega) (fun j hj => ((unhide hr3).lt j hj).1)
              have HR4 : Hid (w4.ownsRow w.heap.size 53 2 v' (n + 1) (rc (d ++ [(x1, x2)]))) := by rw [rc_snoc]; exact hown4
              clear hown4 hg4 hnil4 hr3 HB3
              go_roundw
              case rel => exact ⟨k + 1, k + 1, n + 1, d ++ [(x1, x2)], by omega, by omega, by omega, by go_num, by go_num, HR2, hd1, HR4, HB4⟩
              case measure => simp [intOf]; omega
            · have hp := hide (parse_none (s := bs s) (by rw [bs_len]; omega) (unhide HNO hit))
              have HB3 : Hid (Below w.heap.size w w3) := (unhide hB).trans (hb3.mono hzz)
              clear hb3 C hrow hit
              go_wp2_with fail
              go_ret2
              exact parsePost_nix (unhide hp).1 (unhide hp).2 ((unhide HB3).alloc (unhide HB3).size _)
      · have hle' : ¬ (k : Int) ≤ (s.size : Int) := by omega
        have hp := hide (parse_some (s := bs s) (l := d) (by rw [bs_len]; omega) ((unhide hR).fin (by rw [bs_len]; omega)))
        clear hR
        go_wp2_with fail
        go_ret2
        refine ⟨_, by rw [(unhide hp).2]; rfl, ?_, unhide hB⟩
        rw [(unhide hp).1, unhide hdn]
        exact unhide hrow
end Go.Proofs.YtijoemamnkhhnaaGreatDoor.Ls
