/- What Read, whoOf and addSign answer. -/
import Derived.Test.YtijknodbaddelaaGreatDoorMoParseP
import Derived.Test.YtijknodbaddelaaGreatDoorMoIter
import Derived.Test.YtijknodbaddelaaGreatDoorMoList
namespace Go.Proofs.YtijknodbaddelaaGreatDoor.Mo
open Go.RowKit Go.Shelf

abbrev bs (s : ByteArray) : Bs := s.data.toList
theorem bs_len (s : ByteArray) : (bs s).length = s.size := rfl
theorem take_bs (s : ByteArray) (k : Nat) (h : k < s.size) : (bs s).take (k + 1) = (bs s).take k ++ [s[k]] := by
  rw [List.take_succ_eq_append_getElem (by simpa using h)]; rfl
theorem bs_split (s : ByteArray) (k : Nat) (h : k < s.size) : bs s = ((bs s).take k ++ [s[k]]) ++ (bs s).drop (k + 1) := by
  rw [← take_bs s k h, List.take_append_drop]
/-- what a range over a text comes to -/
theorem dec_at (s : ByteArray) (i : Nat) (h : i < s.size) : (s[i].toNat < 128 ∧ Utf8.decode s i = (s[i].toNat, 1)) ∨ (128 ≤ s[i].toNat ∧ 128 ≤ (Utf8.decode s i).1 ∧ (Utf8.decode s i).1 ≤ 2147483647) := by
  by_cases hc : s[i].toNat < 128
  · exact .inl ⟨hc, decode_ascii s i h hc⟩
  · exact .inr ⟨by omega, (decode_high s i h (by omega)).1, decode_le s i⟩

def readV (o : Option Nat) : Value := match o with
  | some m => .tuple #[.int .i64 (m : Int), .bool true]
  | none => .tuple #[.int .i64 0, .bool false]
theorem read_short {s : Bs} (h : s.length < 1 ∨ 4 < s.length) : readP s = none := by
  unfold readP; rw [if_neg (by omega)]
theorem read_no {s : Bs} {c : UInt8} (hc : c ∈ s) (h : octd c = false) : readP s = none := by
  unfold readP
  rw [if_neg]
  rintro ⟨_, _, h3, _⟩
  rw [List.all_eq_true] at h3
  rw [h3 c hc] at h; cases h
theorem read_great {s : Bs} (h : 511 < valP s) : readP s = none := by
  unfold readP; rw [if_neg (by omega)]
theorem read_yes {s : Bs} (h1 : 1 ≤ s.length) (h2 : s.length ≤ 4) (h3 : s.all octd = true) (h4 : valP s ≤ 511) : readP s = some (valP s) := by
  unfold readP; rw [if_pos ⟨h1, h2, h3, h4⟩]
theorem or_shl (m d : Nat) (hd : d < 8) (hm : m < 100000) : bits .or .i64 ((m : Int) * 8) (d : Int) = ((m * 8 + d : Nat) : Int) := by
  rw [show (m : Int) * 8 = ((m * 8 : Nat) : Int) by push_cast; rfl, bits_or_nat _ _ (by omega) (by omega)]
  congr 1
  have := Nat.shiftLeft_add_eq_or_of_lt (i := 3) (b := d) hd m
  rw [Nat.shiftLeft_eq] at this
  exact this.symm
set_option maxHeartbeats 1000000 in
set_option maxRecDepth 100000 in
theorem read_any (s : ByteArray) (w : World) (hs : s.size ≤ 4611686018427387904) :
    Calls Tryz.prog 7 #[.string s] w fun e w' => e = .returned (readV (readP (bs s))) ∧ Below w.heap.size w w' := by
  by_cases h1 : s.size < 1
  · have ht : decide ((s.size : Int) < 1) = true := by simp; omega
    have hn := hide (read_short (s := bs s) (.inl (by rw [bs_len]; exact h1)))
    go_enter Tryz.func7, Tryz.ntmps7
    go_wp2_with fail
    go_ret2
    exact ⟨by rw [unhide hn]; rfl, Below.refl _ _⟩
  · by_cases h4 : 4 < s.size
    · have hn := hide (read_short (s := bs s) (.inr (by rw [bs_len]; exact h4)))
      go_enter Tryz.func7, Tryz.ntmps7
      go_wp2_with fail
      go_ret2
      exact ⟨by rw [unhide hn]; rfl, Below.refl _ _⟩
    · go_enter Tryz.func7, Tryz.ntmps7
      go_wp2_with fail
      have hb0 : Hid ((w.iter s 0).heap[w.heap.size]? = some (.stringIter s 0)) := World.iter_heap w s 0
      have hB0 : Hid (Below w.heap.size w (w.iter s 0)) := (Below.refl _ w).alloc (Nat.le_refl _) _
      go_loopg [4, 6] s.size (fun g v4 _ wx => ∃ i m : Nat, i ≤ s.size ∧ s.size - i ≤ g ∧ v4 = .int .i64 m ∧ m < 4096 ∧ Hid (m = valP ((bs s).take i) ∧ ((bs s).take i).all octd = true) ∧ Hid (wx.heap[w.heap.size]? = some (.stringIter s i)) ∧ Hid (Below w.heap.size w wx))
      case atStart => exact ⟨0, 0, by omega, by omega, rfl, by decide, ⟨rfl, rfl⟩, hb0, hB0⟩
      case round =>
        clear hb0 hB0
        obtain ⟨i, m, hi, hg, rfl, hm, hV, hit, hB⟩ := hrel
        by_cases hlt : i < s.size
        · have hnx := fun ty => next_at wr w.heap.size s i ty (unhide hit) hlt
          have hbl : w.heap.size < wr.heap.size := (Array.getElem?_eq_some_iff.1 (unhide hit)).1
          obtain ⟨c, hce⟩ : ∃ c, c = s[i] := ⟨_, rfl⟩
          have hmem : Hid (c ∈ bs s) := by rw [hce]; show _ ∈ _; rw [bs_split s i hlt]; simp
          have htk := hide (take_bs s i hlt)
          have hdc := dec_at s i hlt
          rw [← hce] at hdc htk
          clear hce
          obtain ⟨W, hW⟩ : ∃ W, W = wr.putObj w.heap.size (.stringIter s (i + (Utf8.decode s i).2)) := ⟨_, rfl⟩
          rw [← hW] at hnx
          have hitW : Hid (W.heap[w.heap.size]? = some (.stringIter s (i + (Utf8.decode s i).2))) := by rw [hW]; exact World.putObj_heap_same hbl
          have hgW : wr.grownBy W (some w.heap.size) := by rw [hW]; exact grownBy_putObj' _ _ _
          have hBW : Hid (Below w.heap.size w W) := (unhide hB).grown hgW (unhide hB).size (by intro j hj; cases hj; omega)
          clear hW hgW hB hit
          by_cases ho : octd c = true
          · have hoc : 48 ≤ c.toNat ∧ c.toNat ≤ 55 := by simpa [octd] using ho
            rcases hdc with ⟨hc1, hd⟩ | ⟨hc1, _⟩
            · rw [hd] at hnx hitW
              simp only at hnx hitW
              obtain ⟨d, HD⟩ : ∃ d, Hid (d = c.toNat - 48) := ⟨_, rfl⟩
              have hd8 : d < 8 := by rw [unhide HD]; omega
              have hce : ((c.toNat : Nat) : Int) = 48 + (d : Int) := by rw [unhide HD]; omega
              rw [hce] at hnx
              have HO : Hid (bits .or .i64 ((m : Int) * 8) (48 + (d : Int) - 48) = ((m * 8 + d : Nat) : Int)) := by rw [show (48 : Int) + (d : Int) - 48 = (d : Int) by omega]; exact or_shl m d hd8 (by omega)
              have hV2 : Hid (m * 8 + d = valP ((bs s).take (i + 1)) ∧ ((bs s).take (i + 1)).all octd = true) := by
                rw [unhide htk, valP_snoc, ← (unhide hV).1, ← unhide HD]
                refine ⟨rfl, ?_⟩
                rw [List.all_append, (unhide hV).2]
                simp [ho]
              have hm2 : m * 8 + d < 4096 := by
                have h1 := valP_lt _ (unhide hV2).2
                have h2 : ((bs s).take (i + 1)).length ≤ 4 := by rw [List.length_take, bs_len]; omega
                have h3 : 8 ^ ((bs s).take (i + 1)).length ≤ 8 ^ 4 := Nat.pow_le_pow_right (by decide) h2
                have := (unhide hV2).1
                omega
              clear hce hd ho hoc htk hV hmem hc1
              go_wp2_with fail
              go_roundg (s.size - (i + 1))
              case measure => omega
              case rel => exact ⟨i + 1, m * 8 + d, by omega, by omega, by rw [unhide HO], hm2, hV2, hitW, hBW⟩
            · omega
          · have hn := hide (read_no (unhide hmem) (by simpa using ho))
            have hr : ¬ (48 ≤ (Utf8.decode s i).1 ∧ (Utf8.decode s i).1 ≤ 55) := by
              rcases hdc with ⟨hc1, hd⟩ | ⟨hc1, h2, h3⟩
              · rw [hd]; simpa [octd] using ho
              · omega
            obtain ⟨r, HR⟩ : ∃ r, Hid (r = (Utf8.decode s i).1) := ⟨_, rfl⟩
            rw [← unhide HR] at hnx hr
            clear hdc ho htk hV hmem HR hitW
            by_cases hr1 : (r : Int) < 48
            · go_wp2_with fail
              go_ret2
              exact ⟨by rw [unhide hn]; rfl, unhide hBW⟩
            · have hr2 : (55 : Int) < (r : Int) := by omega
              go_wp2_with fail
              go_ret2
              exact ⟨by rw [unhide hn]; rfl, unhide hBW⟩
        · have hnx := fun ty => next_none wr w.heap.size s i ty (unhide hit) hlt
          have hfull : (bs s).take i = bs s := List.take_of_length_le (by rw [bs_len]; omega)
          rw [hfull] at hV
          clear hfull hit
          by_cases h5 : 511 < m
          · have hn := hide (read_great (s := bs s) (by have := (unhide hV).1; omega))
            clear hV
            go_wp2_with fail
            go_ret2
            exact ⟨by rw [unhide hn]; rfl, unhide hB⟩
          · have hn : Hid (readP (bs s) = some m) := by
              have h := (unhide hV)
              show _ = _
              rw [read_yes (by rw [bs_len]; omega) (by rw [bs_len]; omega) h.2 (by omega), ← h.1]
            clear hV
            go_wp2_with fail
            go_ret2
            exact ⟨by rw [unhide hn]; rfl, unhide hB⟩
end Go.Proofs.YtijknodbaddelaaGreatDoor.Mo
