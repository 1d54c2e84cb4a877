/- What Rest, Drop and Squeeze answer. -/
import Derived.Test.YtjgboecifonjdaaDoorSeArr
import Derived.Test.YtjgboecifonjdaaDoorLnBuild
namespace Go.Proofs.YtjgboecifonjdaaDoor.Se
open Go.RowKit

theorem index_tab (f : UInt8 → Value) (k : Nat) (hk : k < 256) (w : World) : (Instr.index 45 (.agg (tab f)) (.int .i64 (k : Int))).run Tryd.prog w = .ok (f (UInt8.ofNat k)) w := by
  have h := tab_get f k hk
  simp [Instr.index, run_underlying Tryd.underlying45, asIntOf, go_sem, Tryd.sizeOf4, part, Tryd.isAgg4, h]
  intro h; omega
theorem of_toNat (c : UInt8) : UInt8.ofNat c.toNat = c := by simp
theorem rest_snoc (l : Bs) (k : Nat) : (span 0 (k + 1)).filter (fun c => !l.elem c) = (span 0 k).filter (fun c => !l.elem c) ++ (if l.elem (UInt8.ofNat k) = true then [] else [UInt8.ofNat k]) := by
  rw [filter_snoc]
  congr 1
  cases l.elem (UInt8.ofNat k) <;> simp

set_option maxHeartbeats 1000000 in
set_option maxRecDepth 100000 in
theorem rest_any (a : Option Addr) (n cap c' : Nat) (l : Bs) (w : World) (hB : By w a n c' l) (hn : n ≤ 4611686018427387904) :
    Calls Tryd.prog 6 #[.slice a n cap] w fun e w' => ∃ v, e = .returned v ∧ Row w.heap.size v (rest l) w' ∧ Below w.heap.size w w' := by
  obtain ⟨i0, hi, hz0, hz1, hz2⟩ := info_parts Tryd.infoByte
  have C := hide (members_any a n cap c' l w hB hn)
  clear hB
  go_enter Tryd.func6, Tryd.ntmps6
  go_wp2_with fail
  refine (unhide C).mono ?_
  rintro e w1 ⟨rfl, hb1⟩
  have HX := hide (fun k hk W => index_tab (has l) k hk W)
  have hs1 := hb1.size
  obtain ⟨A, hA⟩ : ∃ A, A = tab (has l) := ⟨_, rfl⟩
  rw [← hA] at HX ⊢
  clear hA C
  go_wp2_with fail
  go_loopw [3, 8] (fun u i wr => ∃ k : Nat, k ≤ 256 ∧ i = .int .i64 k ∧ Hid (Row w.heap.size u ((span 0 k).filter fun c => !l.elem c) wr) ∧ Hid (Below w.heap.size w wr)) (fun _ i _ => 256 - (intOf i).toNat)
  case atStart => exact ⟨0, by omega, rfl, row_nil _ _, hb1⟩
  case round =>
    obtain ⟨k, hk, rfl, hrow, hnx⟩ := hrel
    by_cases hlt : k < 256
    · have hk255 : (k : Int) ≤ 255 := by omega
      have hlt' : (k : Int) < 256 := by omega
      have hx : ∀ W, (Instr.index 45 (.agg A) (.int .i64 (k : Int))).run Tryd.prog W = .ok (.bool (l.elem (UInt8.ofNat k))) W := fun W => unhide HX k hlt W
      have hsz := Nat.le_trans (Nat.le_refl _) (unhide hnx).size
      have hrs := hide (rest_snoc l k)
      have hlen : ((span 0 k).filter fun c => !l.elem c).length ≤ 256 := Nat.le_trans (List.length_filter_le _ _) (by rw [span_length]; omega)
      obtain ⟨L, hL⟩ : ∃ L, L = (span 0 k).filter fun c => !l.elem c := ⟨_, rfl⟩
      rw [← hL] at hrow hrs hlen
      obtain ⟨c, hc⟩ : ∃ c, c = UInt8.ofNat k := ⟨_, rfl⟩
      have hck : Hid ((k : Int) = (c.toNat : Int)) := by rw [hc]; simp [Hid]; omega
      rw [← hc] at hrs hx
      clear hL hc
      cases he : l.elem c
      · rw [he] at hrs hx
        clear he
        go_wp2_with (at_builtin; refine wpList_append_own _ rfl _ _ 22 rfl w.heap.size 5 i0 (.int .u8 0) 1 1 Tryd.underlying22 hi hz0 hz1 hz2 rfl (by decide) _ _ _ rfl ((unhide hrow).alloc _) ⟨wr.heap.size, 0, none⟩ 1 1 [.int .u8 (k : Int)] rfl rfl (byte_new _ _ _) (byte_one _) (by unfold maxLen; omega) (by omega) (by simp; omega) ?_; intro v' w9 hown9 hg9 hnil9)
        have hn : Hid (Row w.heap.size v' ((span 0 (k + 1)).filter fun c => !l.elem c) w9) := by rw [unhide hrs]; exact row_snoc hown9 (unhide hck)
        have hB9 : Hid (Below w.heap.size w w9) := (unhide hnx).grown (grown_alloc hg9) hsz (row_lo (unhide hrow))
        clear hown9 hg9 hnil9
        go_roundw
        case rel => exact ⟨k + 1, by omega, by go_num, hn, hB9⟩
        case measure => simp [intOf]; omega
      · rw [he] at hrs hx
        clear he
        have hn : Hid (Row w.heap.size u3 ((span 0 (k + 1)).filter fun c => !l.elem c) wr) := by rw [unhide hrs]; simpa [Hid] using unhide hrow
        go_wp2_with fail
        go_roundw
        case rel => exact ⟨k + 1, by omega, by go_num, hn, hnx⟩
        case measure => simp [intOf]; omega
    · obtain rfl : k = 256 := by omega
      go_wp2_with fail
      go_ret
      exact ⟨_, rfl, unhide hrow, unhide hnx⟩

/-! ### dropped, squeezed -/
theorem drop_snoc (s l : Bs) (k : Nat) (c : UInt8) (t : Bs) (h : s.drop k = c :: t) : drop (s.take (k + 1)) l = drop (s.take k) l ++ (if l.elem c = true then [] else [c]) := by
  have hk : k < s.length := by
    have := congrArg List.length h
    rw [List.length_drop] at this; simp at this; omega
  have hc : s[k] = c := by rw [List.drop_eq_getElem_cons hk] at h; exact (List.cons.inj h).1
  rw [List.take_succ_eq_append_getElem hk, hc]
  unfold drop
  rw [List.filter_append]
  congr 1
  by_cases hm : c ∈ l <;> simp [hm]
/-- the byte ahead of a place -/
def ahead (s : Bs) (k : Nat) : Option UInt8 := if k = 0 then none else s[k - 1]?
theorem sq_app (l : Bs) (p : Option UInt8) (s t : Bs) : sq l p (s ++ t) = sq l p s ++ sq l (match s.getLast? with | none => p | some c => some c) t := by
  induction s generalizing p with
  | nil => simp [sq]
  | cons c r ih =>
    have e : (match (c :: r).getLast? with | none => p | some c => some c) = (match r.getLast? with | none => some c | some d => some d) := by
      cases r with
      | nil => rfl
      | cons d u => simp [List.getLast?_cons]
    rw [e, List.cons_append, sq, sq]
    split
    · exact ih _
    · rw [ih]; rfl
theorem sq_snoc (s l : Bs) (k : Nat) (c : UInt8) (t : Bs) (h : s.drop k = c :: t) : squeeze (s.take (k + 1)) l = squeeze (s.take k) l ++ (if ahead s k = some c ∧ l.elem c = true then [] else [c]) := by
  have hk : k < s.length := by
    have := congrArg List.length h
    rw [List.length_drop] at this; simp at this; omega
  have hc : s[k] = c := by rw [List.drop_eq_getElem_cons hk] at h; exact (List.cons.inj h).1
  rw [← hc]
  unfold squeeze
  rw [List.take_succ_eq_append_getElem hk, sq_app]
  congr 1
  have e : (match (s.take k).getLast? with | none => none | some c => some c) = ahead s k := by
    unfold ahead
    by_cases h : k = 0
    · simp [h]
    · rw [if_neg h, List.getLast?_eq_getElem?, List.length_take, Nat.min_eq_left (by omega), List.getElem?_take_of_lt (by omega)]
      cases s[k - 1]? <;> rfl
  rw [e, sq]
  split <;> rfl

theorem Arr.belowB {w w' : World} {B g : Nat} {t : TypeId} {f : UInt8 → Value} (h : Arr w g t f) (hb : Below B w w') (hg : g < B) : Arr w' g t f := (hb.block g hg).trans h
theorem drop_len (s l : Bs) : (drop s l).length ≤ s.length := List.length_filter_le _ _
theorem sq_len1 (l : Bs) (p : Option UInt8) (s : Bs) : (sq l p s).length ≤ s.length := by
  induction s generalizing p with
  | nil => exact Nat.le_refl _
  | cons c r ih =>
    rw [sq]; split
    · exact Nat.le_trans (ih _) (by simp)
    · simp; exact ih _
theorem sq_len (s l : Bs) : (squeeze s l).length ≤ s.length := sq_len1 _ _ _
theorem isB_drew {B b : Nat} {l : Bs} {w : World} (h : Ln.IsB B b l w) (q : Nat) : Ln.IsB B b l (w.drewN q) := h

set_option maxHeartbeats 1000000 in
set_option maxRecDepth 100000 in
theorem drop_any (s : ByteArray) (a : Option Addr) (n cap c' : Nat) (l : Bs) (w : World) (hB : By w a n c' l) (hn : n ≤ 4611686018427387904) (hs : s.size ≤ 70368744177664) :
    Calls Tryd.prog 9 #[.string s, .slice a n cap] w fun e w' => e = .returned (.string ⟨(drop (bs s) l).toArray⟩) ∧ Below w.heap.size w w' := by
  have C := hide (members_any a n cap c' l w hB hn)
  obtain ⟨hzero, hinf⟩ := zero_of_info Tryd.infoArrB
  obtain ⟨z, hz⟩ : ∃ z, z = tab zb := ⟨_, rfl⟩
  rw [← hz] at hzero
  have HZ := hide hz
  clear hB hz
  go_enter Tryd.func9, Tryd.ntmps9
  go_wp2_with fail
  refine (unhide C).mono ?_
  rintro e w1 ⟨rfl, hb1⟩
  have hs1 := hb1.size
  have hst := hide (run_storeAt_new (P := Tryd.prog) w1 45 z (tab (has l)) (by rw [tab_size]; exact hinf) (by rw [unhide HZ, tab_size, tab_size]) (tab_one _ (fun _ => rfl)))
  obtain ⟨w2, hw2⟩ : ∃ W, W = w1.alloc (.cells (tab (has l)) 45) := ⟨_, rfl⟩
  have hA1 : Hid (Arr w2 w1.heap.size 45 (has l)) := by rw [hw2]; exact heap_alloc_new w1 _
  have hb2 : Hid (Below w.heap.size w w2) := by rw [hw2]; exact hb1.alloc hs1 _
  have hsz2 : w2.heap.size = w1.heap.size + 1 := by rw [hw2]; simp
  have HSZ2 := hide hsz2
  rw [← hw2] at hst
  obtain ⟨A, hA⟩ : ∃ A, A = tab (has l) := ⟨_, rfl⟩
  rw [← hA] at hst ⊢
  clear hA hb1 hinf C hw2 hsz2 HZ
  go_wp2_with (refine wpList_store_arr _ rfl _ _ 45 rfl _ rfl _ rfl _ (by exact unhide hst) ?_)
  go_loopw [7] (fun i wr => ∃ k : Nat, k ≤ s.size ∧ i = .int .i64 k ∧ Hid (Ln.IsB w2.heap.size w2.heap.size (drop ((bs s).take k) l) wr) ∧ Hid (Arr wr w1.heap.size 45 (has l)) ∧ Hid (Below w.heap.size w wr) ∧ w2.heap.size ≤ wr.heap.size) (fun i _ => s.size - (intOf i).toNat)
  case atStart => exact ⟨0, Nat.zero_le _, rfl, Lib.fresh_isBuilder 50 5 w2, (unhide hA1).below ((Below.refl _ _).alloc (Nat.le_refl _) _), (unhide hb2).alloc (unhide hb2).size _, by simp⟩
  case round =>
    clear hA1 hb2 hst hzero
    obtain ⟨k, hk, rfl, hI, hA, hnx, hsz⟩ := hrel
    by_cases hlt : k < s.size
    · have hlt' : (k : Int) < (s.size : Int) := by omega
      have hcell := (unhide hA).cell s[k]
      have h256 : (s[k].toNat : Int) < 256 := by have := s[k].toNat_lt; omega
      have hsn := hide (drop_snoc (bs s) l k s[k] _ (bs_at s k hlt))
      unfold has at hcell
      cases he : l.elem s[k]
      · have W := hide (Ln.writeByte_any w2.heap.size w2.heap.size _ (s[k].toNat : Int) wr (unhide hI) (by rw [Lib.byteCells_length]; have := drop_len ((bs s).take k) l; rw [List.length_take, bs_len] at this; omega) hsz)
        rw [he] at hcell hsn
        clear he hI
        go_wp2_with fail
        refine (unhide W).mono ?_
        rintro e w3 ⟨rfl, hI3, hb3⟩
        have hA3 := hide ((unhide hA).belowB hb3 (by have := unhide HSZ2; omega))
        have hB3 : Hid (Below w.heap.size w w3) := (unhide hnx).trans (hb3.mono (by have := unhide HSZ2; omega))
        have hI4 : Hid (Ln.IsB w2.heap.size w2.heap.size (drop ((bs s).take (k + 1)) l) w3) := by
          rw [unhide hsn]; simpa [Hid, Ln.IsB, Lib.byteCells] using hI3
        have hs3 : w2.heap.size ≤ w3.heap.size := Nat.le_trans hsz hb3.size
        clear hI3 hb3 hA hnx W hcell hsn
        go_wp2_with fail
        go_roundw
        case rel => exact ⟨k + 1, by omega, by go_num, hI4, hA3, hB3, hs3⟩
        case measure => simp [intOf]; omega
      · rw [he] at hcell hsn
        clear he
        have hI4 : Hid (Ln.IsB w2.heap.size w2.heap.size (drop ((bs s).take (k + 1)) l) wr) := by
          rw [unhide hsn]; simpa [Hid] using unhide hI
        clear hsn hI
        go_wp2_with fail
        go_roundw
        case rel => exact ⟨k + 1, by omega, by go_num, hI4, hA, hnx, hsz⟩
        case measure => simp [intOf]; omega
    · have hkn : (bs s).take k = bs s := List.take_of_length_le (by rw [bs_len]; omega)
      rw [hkn] at hI
      clear hkn
      have W := hide (Ln.string_any w2.heap.size w2.heap.size _ wr (unhide hI) hsz)
      clear hI
      go_wp2_with fail
      refine (unhide W).mono ?_
      rintro e w3 ⟨rfl, hb3⟩
      have hB3 : Hid (Below w.heap.size w w3) := (unhide hnx).trans (hb3.mono (by have := unhide HSZ2; omega))
      clear W hb3 hnx
      go_wp2_with fail
      go_ret
      exact ⟨rfl, unhide hB3⟩

set_option maxHeartbeats 1000000 in
set_option maxRecDepth 100000 in
theorem squeeze_any (s : ByteArray) (a : Option Addr) (n cap c' : Nat) (l : Bs) (w : World) (hB : By w a n c' l) (hn : n ≤ 4611686018427387904) (hs : s.size ≤ 70368744177664) :
    Calls Tryd.prog 11 #[.string s, .slice a n cap] w fun e w' => e = .returned (.string ⟨(squeeze (bs s) l).toArray⟩) ∧ Below w.heap.size w w' := by
  have C := hide (members_any a n cap c' l w hB hn)
  obtain ⟨hzero, hinf⟩ := zero_of_info Tryd.infoArrB
  obtain ⟨z, hz⟩ : ∃ z, z = tab zb := ⟨_, rfl⟩
  rw [← hz] at hzero
  have HZ := hide hz
  clear hB hz
  go_enter Tryd.func11, Tryd.ntmps11
  go_wp2_with fail
  refine (unhide C).mono ?_
  rintro e w1 ⟨rfl, hb1⟩
  have hs1 := hb1.size
  have hst := hide (run_storeAt_new (P := Tryd.prog) w1 45 z (tab (has l)) (by rw [tab_size]; exact hinf) (by rw [unhide HZ, tab_size, tab_size]) (tab_one _ (fun _ => rfl)))
  obtain ⟨w2, hw2⟩ : ∃ W, W = w1.alloc (.cells (tab (has l)) 45) := ⟨_, rfl⟩
  have hA1 : Hid (Arr w2 w1.heap.size 45 (has l)) := by rw [hw2]; exact heap_alloc_new w1 _
  have hb2 : Hid (Below w.heap.size w w2) := by rw [hw2]; exact hb1.alloc hs1 _
  have hsz2 : w2.heap.size = w1.heap.size + 1 := by rw [hw2]; simp
  have HSZ2 := hide hsz2
  rw [← hw2] at hst
  obtain ⟨A, hA⟩ : ∃ A, A = tab (has l) := ⟨_, rfl⟩
  rw [← hA] at hst ⊢
  clear hA hb1 hinf C hw2 hsz2 HZ
  go_wp2_with (refine wpList_store_arr _ rfl _ _ 45 rfl _ rfl _ rfl _ (by exact unhide hst) ?_)
  go_loopw [7] (fun i wr => ∃ k : Nat, k ≤ s.size ∧ i = .int .i64 k ∧ Hid (Ln.IsB w2.heap.size w2.heap.size (squeeze ((bs s).take k) l) wr) ∧ Hid (Arr wr w1.heap.size 45 (has l)) ∧ Hid (Below w.heap.size w wr) ∧ w2.heap.size ≤ wr.heap.size) (fun i _ => s.size - (intOf i).toNat)
  case atStart => exact ⟨0, Nat.zero_le _, rfl, Lib.fresh_isBuilder 50 5 w2, (unhide hA1).below ((Below.refl _ _).alloc (Nat.le_refl _) _), (unhide hb2).alloc (unhide hb2).size _, by simp⟩
  case round =>
    clear hA1 hb2 hst hzero
    obtain ⟨k, hk, rfl, hI, hA, hnx, hsz⟩ := hrel
    by_cases hlt : k < s.size
    · have hlt' : (k : Int) < (s.size : Int) := by omega
      have hcell := (unhide hA).cell s[k]
      have h256 : (s[k].toNat : Int) < 256 := by have := s[k].toNat_lt; omega
      have hsn := hide (sq_snoc (bs s) l k s[k] _ (bs_at s k hlt))
      unfold has at hcell
      have W := hide (fun q => Ln.writeByte_any w2.heap.size w2.heap.size _ (s[k].toNat : Int) (wr.drewN q) (isB_drew (unhide hI) q) (by rw [Lib.byteCells_length]; have := sq_len ((bs s).take k) l; rw [List.length_take, bs_len] at this; omega) hsz)
      obtain ⟨L, hL⟩ : ∃ L, L = squeeze ((bs s).take k) l := ⟨_, rfl⟩
      rw [← hL] at W hsn hI
      clear hL
      -- kept: the byte is written
      have keep : Hid (Hid (squeeze ((bs s).take (k + 1)) l = L ++ [s[k]]) → ∀ q w3, Lib.IsBuilder 50 5 w2.heap.size w2.heap.size (Lib.byteCells L ++ [.int .u8 (s[k].toNat : Int)]) w3 → Below w2.heap.size (wr.drewN q) w3 →
          Hid (Ln.IsB w2.heap.size w2.heap.size (squeeze ((bs s).take (k + 1)) l) w3) ∧ Hid (Arr w3 w1.heap.size 45 (has l)) ∧ Hid (Below w.heap.size w w3) ∧ w2.heap.size ≤ w3.heap.size) := by
        intro e q w3 h3 hb3
        refine ⟨?_, (Arr.belowB (w := wr.drewN q) (unhide hA) hb3 (by have := unhide HSZ2; omega)), ?_, Nat.le_trans hsz hb3.size⟩
        · rw [unhide e]; simpa [Hid, Ln.IsB, Lib.byteCells] using h3
        · exact ((unhide hnx).trans ((below_drew wr q).mono (unhide hnx).size)).trans (hb3.mono (by have := unhide HSZ2; omega))
      rcases (show ¬ 0 < k ∨ 0 < k from by omega) with h0 | h0
      · -- the first byte
        have e1 : Hid (squeeze ((bs s).take (k + 1)) l = L ++ [s[k]]) := by
          rw [unhide hsn, if_neg (fun h => by have := h.1; unfold ahead at this; rw [if_pos (by omega)] at this; cases this)]; exact rfl
        have K := hide (unhide keep e1)
        clear hsn keep e1 hI
        go_wp2_with fail
        go_quiet (fail)
        go_wp2_with fail
        refine (unhide W nq).mono ?_
        rintro e w3 ⟨rfl, hI3, hb3⟩
        obtain ⟨k1, k2, k3, k4⟩ := unhide K nq w3 hI3 hb3
        clear hI3 hb3 hA hnx W hcell K
        go_wp2_with fail
        go_roundw
        case rel => exact ⟨k + 1, by omega, by go_num, k1, k2, k3, k4⟩
        case measure => simp [intOf]; omega
      · have hk1 : k - 1 < s.size := by omega
        obtain ⟨j, rfl⟩ : ∃ j, k = j + 1 := ⟨k - 1, by omega⟩
        have hah : ahead (bs s) (j + 1) = some s[j] := by
          unfold ahead
          rw [if_neg (by omega)]
          show (bs s)[j]? = _
          rw [List.getElem?_eq_getElem (by rw [bs_len]; omega)]
          rfl
        have hy : (j : Int) + 1 < (s.size : Int) := by omega
        have hy2 : (j : Int) < (s.size : Int) := by omega
        have hy0 : (0 : Int) ≤ (j : Int) + 1 := by omega
        have htn : ((j : Int) + 1).toNat = j + 1 := by omega
        have hjj : (j : Int) + 1 - 1 = (j : Int) := by omega
        clear hlt'
        by_cases heq : (s[j + 1].toNat : Int) = (s[j].toNat : Int)
        · have t1 : ((s[j + 1].toNat : Int) == (s[j].toNat : Int)) = true := by simp [heq]
          have heq' := u8_eq heq
          cases he : l.elem s[j + 1]
          · have e1 : Hid (squeeze ((bs s).take (j + 1 + 1)) l = L ++ [s[j + 1]]) := by
              rw [unhide hsn, he, if_neg (fun h => by cases h.2)]; exact rfl
            have K := hide (unhide keep e1)
            rw [he] at hcell
            clear hsn keep e1 hI he heq heq' hah
            go_wp2_with fail
            go_quiet (fail)
            go_wp2_with fail
            refine (unhide W nq).mono ?_
            rintro e w3 ⟨rfl, hI3, hb3⟩
            obtain ⟨k1, k2, k3, k4⟩ := unhide K nq w3 hI3 hb3
            clear hI3 hb3 hA hnx W hcell K
            go_wp2_with fail
            go_roundw
            case rel => exact ⟨j + 1 + 1, by omega, by go_num, k1, k2, k3, k4⟩
            case measure => simp [intOf]; omega
          · have e1 : Hid (squeeze ((bs s).take (j + 1 + 1)) l = L) := by
              rw [unhide hsn, he, if_pos ⟨by rw [hah, heq'], rfl⟩]; simp [Hid]
            rw [he] at hcell
            have hI4 : Hid (∀ q, Ln.IsB w2.heap.size w2.heap.size (squeeze ((bs s).take (j + 1 + 1)) l) (wr.drewN q)) := fun q => by
              rw [unhide e1]; exact isB_drew (unhide hI) q
            have hB4 : Hid (∀ q, Below w.heap.size w (wr.drewN q)) := fun q => (unhide hnx).trans ((below_drew wr q).mono (unhide hnx).size)
            clear hsn keep e1 hI he heq heq' hah W
            go_wp2_with fail
            go_quiet (fail)
            go_wp2_with fail
            go_roundw
            case rel => exact ⟨j + 1 + 1, by omega, by go_num, unhide hI4 nq, hA, unhide hB4 nq, hsz⟩
            case measure => simp [intOf]; omega
        · have t1 : ((s[j + 1].toNat : Int) == (s[j].toNat : Int)) = false := by simp; omega
          have e1 : Hid (squeeze ((bs s).take (j + 1 + 1)) l = L ++ [s[j + 1]]) := by
            rw [unhide hsn, if_neg (fun h => by rw [hah] at h; have := Option.some.inj h.1; rw [this] at heq; exact heq rfl)]; exact rfl
          have K := hide (unhide keep e1)
          clear hsn keep e1 hI heq hah
          go_wp2_with fail
          go_quiet (fail)
          go_wp2_with fail
          refine (unhide W nq).mono ?_
          rintro e w3 ⟨rfl, hI3, hb3⟩
          obtain ⟨k1, k2, k3, k4⟩ := unhide K nq w3 hI3 hb3
          clear hI3 hb3 hA hnx W hcell K
          go_wp2_with fail
          go_roundw
          case rel => exact ⟨j + 1 + 1, by omega, by go_num, k1, k2, k3, k4⟩
          case measure => simp [intOf]; omega
    · have hkn : (bs s).take k = bs s := List.take_of_length_le (by rw [bs_len]; omega)
      rw [hkn] at hI
      clear hkn
      have W := hide (Ln.string_any w2.heap.size w2.heap.size _ wr (unhide hI) hsz)
      clear hI
      go_wp2_with fail
      refine (unhide W).mono ?_
      rintro e w3 ⟨rfl, hb3⟩
      have hB3 : Hid (Below w.heap.size w w3) := (unhide hnx).trans (hb3.mono (by have := unhide HSZ2; omega))
      clear W hb3 hnx
      go_wp2_with fail
      go_ret
      exact ⟨rfl, unhide hB3⟩
end Go.Proofs.YtjgboecifonjdaaDoor.Se
