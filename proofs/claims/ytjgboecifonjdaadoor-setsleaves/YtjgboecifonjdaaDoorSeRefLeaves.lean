/- What the document's place, has, Rest, Drop and Squeeze answer. -/
import Derived.Test.YtjgboecifonjdaaDoorSeSets
import Derived.Test.YtjgboecifonjdaaDoorSeFacts
import Derived.Laws.IdiomStrings
import Derived.Lib.BufferRead
namespace Go.Proofs.YtjgboecifonjdaaDoor.Se
open Go.RowKit

theorem idx_take {f : Bs} {k : Nat} {c : UInt8} (h : (f.take k).elem c = false) (hk : k < f.length) (hc : f.getD k 0 = c) : f.elem c = true ∧ f.idxOf c = k := by
  have e : f = f.take k ++ c :: f.drop (k + 1) := by
    conv => lhs; rw [← List.take_append_drop k f]
    rw [List.drop_eq_getElem_cons hk, show f[k] = c from by rw [← hc]; simp [List.getD, List.getElem?_eq_getElem hk]]
  have hn : c ∉ f.take k := fun hm => by rw [List.elem_iff.2 hm] at h; cases h
  constructor
  · rw [e]; simp
  · rw [e, List.idxOf_append, if_neg hn]
    simp; omega
theorem take_not {f : Bs} {k : Nat} {c : UInt8} (h : (f.take k).elem c = false) (hk : k < f.length) (hc : f.getD k 0 ≠ c) : (f.take (k + 1)).elem c = false := by
  rw [take_snoc f k hk]
  have h1 : c ∉ f.take k := fun hm => by rw [List.elem_iff.2 hm] at h; cases h
  have h2 : ¬ c = f.getD k 0 := fun e => hc e.symm
  rw [Bool.eq_false_iff]
  intro hm
  rcases List.mem_append.1 (List.elem_iff.1 hm) with h3 | h3
  · exact h1 h3
  · simp at h3; exact h2 h3
def placeI (l : Bs) (c : UInt8) : Int := if l.elem c = true then (l.idxOf c : Int) else -1

set_option maxHeartbeats 400000 in
theorem place_any (a : Option Addr) (n cap c' : Nat) (l : Bs) (c : UInt8) (w : World) (h1 : By w a n c' l) (hn : n ≤ 4611686018427387904) :
    Calls Tryd.prog 17 #[.slice a n cap, .int .u8 c.toNat] w fun e w' => e = .returned (.int .i64 (placeI l c)) ∧ w' = w := by
  have H1 := hide h1
  clear h1
  go_enter Tryd.func17, Tryd.ntmps17
  go_wp2
  go_loopw [5] (fun i wr => ∃ k : Nat, k ≤ n ∧ i = .int .i64 k ∧ wr = w ∧ Hid ((l.take k).elem c = false)) (fun i _ => n - (intOf i).toNat)
  case atStart => exact ⟨0, Nat.zero_le _, rfl, by trivial, by simp [Hid]⟩
  case round =>
    obtain ⟨k, hk, rfl, rfl, hr⟩ := hrel
    by_cases hlt : k < n
    · have hlt' : (k : Int) < (n : Int) := by omega
      obtain ⟨b1, o1, rfl, _, hcs1⟩ : ∃ b off, a = some ⟨b, off, none⟩ ∧ b < wr.heap.size ∧ ∀ i, i < n → wr.cell? ⟨b, off + i, none⟩ = some (.int .u8 ((l.getD i 0).toNat : Int)) := by
        rcases (unhide H1).cells with h | h
        · omega
        · exact h
      have hc1 := hcs1 k hlt
      have hkl : k < l.length := by rw [(unhide H1).len]; exact hlt
      obtain ⟨x, hx⟩ : ∃ x, x = l.getD k 0 := ⟨_, rfl⟩
      rw [← hx] at hc1
      by_cases he : (x.toNat : Int) = (c.toNat : Int)
      · have hf : Hid (placeI l c = (k : Int)) := by
          obtain ⟨h1, h2⟩ := idx_take (unhide hr) hkl (by rw [← hx]; exact u8_eq he)
          unfold placeI; rw [if_pos h1, h2]; exact rfl
        have t1 : ((x.toNat : Int) == (c.toNat : Int)) = true := by simp [he]
        clear he hr hx hcs1 hkl
        go_wp2
        go_ret
        exact ⟨by rw [unhide hf]; rfl, rfl⟩
      · have hf := hide (take_not (unhide hr) hkl (by rw [← hx]; exact u8_ne he))
        have t1 : ((x.toNat : Int) == (c.toNat : Int)) = false := by simp; omega
        clear he hr hx hcs1 hkl
        go_wp2
        go_roundw
        case rel => exact ⟨k + 1, by omega, by go_num, by trivial, hf⟩
        case measure => simp [intOf]; omega
    · have hf : Hid (placeI l c = -1) := by
        have := unhide hr
        rw [List.take_of_length_le (by rw [(unhide H1).len]; omega)] at this
        unfold placeI; rw [this]; exact rfl
      clear hr
      go_wp2
      go_ret
      exact ⟨by rw [unhide hf]; rfl, rfl⟩

theorem cv_back {W : World} {base : Nat} {v : Value} (l : Bs) (h : Row base v l W) : (convert 22 9 v).run Tryd.prog W = .ok (.string ⟨l.toArray⟩) W := by
  rcases h.2 with ⟨rfl, h0⟩ | ⟨g, cap, cur, rfl, _⟩
  · obtain rfl : l = [] := List.eq_nil_of_length_eq_zero h0
    exact Lib.run_convert_nil_bytes W 22 9 5 0 Tryd.underlying22 Tryd.underlying5 Tryd.underlying9
  · refine run_convert_bytes_back W 22 9 5 ⟨g, 0, none⟩ cap l Tryd.underlying22 Tryd.underlying5 Tryd.underlying9 ?_
    intro j hj
    exact h.cells (g := g) rfl j _ (by simp [Lib.byteCells, List.getElem?_eq_getElem hj])

theorem placeI_neg {l : Bs} {c : UInt8} (h : l.elem c = false) : placeI l c = -1 := by unfold placeI; rw [h]; rfl
theorem placeI_pos {l : Bs} {c : UInt8} (h : l.elem c = true) : placeI l c = (l.idxOf c : Int) := by unfold placeI; rw [h]; rfl
set_option maxHeartbeats 1000000 in
set_option maxRecDepth 100000 in
theorem refRest_any (a : Option Addr) (n cap c' : Nat) (l : Bs) (w : World) (hB : By w a n c' l) (hn : n ≤ 4611686018427387904) :
    Calls Tryd.prog 8 #[.slice a n cap] w fun e w' => ∃ v, e = .returned v ∧ Row w.heap.size v (rest l) w' ∧ Below w.heap.size w w' := by
  obtain ⟨i0, hi, hz0, hz1, hz2⟩ := info_parts Tryd.infoByte
  have HB := hide hB
  clear hB
  go_enter Tryd.func8, Tryd.ntmps8
  go_wp2_with fail
  go_loopw [3, 4] (fun u i wr => ∃ k : Nat, k ≤ 256 ∧ i = .int .i64 k ∧ Hid (Row w.heap.size u ((span 0 k).filter fun c => !l.elem c) wr) ∧ Hid (Below w.heap.size w wr)) (fun _ i _ => 256 - (intOf i).toNat)
  case atStart => exact ⟨0, by omega, rfl, row_nil _ _, Below.refl _ _⟩
  case round =>
    obtain ⟨k, hk, rfl, hrow, hnx⟩ := hrel
    by_cases hlt : k < 256
    · have hk255 : (k : Int) ≤ 255 := by omega
      have hlt' : (k : Int) < 256 := by omega
      have hsz := (unhide hnx).size
      have hrs := hide (rest_snoc l k)
      have hlen : ((span 0 k).filter fun c => !l.elem c).length ≤ 256 := Nat.le_trans (List.length_filter_le _ _) (by rw [span_length]; omega)
      obtain ⟨L, hL⟩ : ∃ L, L = (span 0 k).filter fun c => !l.elem c := ⟨_, rfl⟩
      rw [← hL] at hrow hrs hlen
      obtain ⟨c, hc⟩ : ∃ c, c = UInt8.ofNat k := ⟨_, rfl⟩
      have hck : (c.toNat : Int) = (k : Int) := by rw [hc]; simp; omega
      have HCK := hide hck
      have C := hide (place_any a n cap c' l c wr ((unhide HB).below (unhide hnx)) hn)
      rw [hck] at C
      rw [← hc] at hrs
      clear hL hc hck
      cases he : l.elem c
      · rw [he] at hrs
        rw [placeI_neg he] at C
        clear he
        go_wp2_with fail
        refine (unhide C).mono ?_
        rintro e w1 ⟨rfl, rfl⟩
        go_wp2_with (at_builtin; refine wpList_append_own _ rfl _ _ 22 rfl w.heap.size 5 i0 (.int .u8 0) 1 1 Tryd.underlying22 hi hz0 hz1 hz2 rfl (by decide) _ _ _ rfl ((unhide hrow).alloc _) ⟨w1.heap.size, 0, none⟩ 1 1 [.int .u8 (k : Int)] rfl rfl (byte_new _ _ _) (byte_one _) (by unfold maxLen; omega) (by omega) (by simp; omega) ?_; intro v' w9 hown9 hg9 hnil9)
        have hn' : Hid (Row w.heap.size v' ((span 0 (k + 1)).filter fun c => !l.elem c) w9) := by rw [unhide hrs]; exact row_snoc hown9 (unhide HCK).symm
        have hB9 : Hid (Below w.heap.size w w9) := (unhide hnx).grown (grown_alloc hg9) hsz (row_lo (unhide hrow))
        clear hown9 hg9 hnil9
        go_roundw
        case rel => exact ⟨k + 1, by omega, by go_num, hn', hB9⟩
        case measure => simp [intOf]; omega
      · rw [he] at hrs
        rw [placeI_pos he] at C
        clear he
        have hn' : Hid (Row w.heap.size u3 ((span 0 (k + 1)).filter fun c => !l.elem c) wr) := by rw [unhide hrs]; simpa [Hid] using unhide hrow
        obtain ⟨x, hx⟩ : ∃ x, x = l.idxOf c := ⟨_, rfl⟩
        rw [← hx] at C
        have hx0 : ¬ (x : Int) < 0 := by omega
        clear hx hrow
        go_wp2_with fail
        refine (unhide C).mono ?_
        rintro e w1 ⟨rfl, rfl⟩
        go_wp2_with fail
        go_roundw
        case rel => exact ⟨k + 1, by omega, by go_num, hn', hnx⟩
        case measure => simp [intOf]; omega
    · obtain rfl : k = 256 := by omega
      go_wp2_with fail
      go_ret
      exact ⟨_, rfl, unhide hrow, unhide hnx⟩

set_option maxHeartbeats 1000000 in
set_option maxRecDepth 100000 in
theorem refHas_any (a : Option Addr) (n cap c' : Nat) (l : Bs) (w : World) (hB : By w a n c' l) (hn : n ≤ 4611686018427387904) :
    Calls Tryd.prog 20 #[.slice a n cap] w fun e w' => e = .returned (.agg (tab (has l))) ∧ Below w.heap.size w w' := by
  have HB := hide hB
  obtain ⟨hzero, hinf⟩ := zero_of_info Tryd.infoArrB
  obtain ⟨z, hz⟩ : ∃ z, z = tab zb := ⟨_, rfl⟩
  rw [← hz] at hzero
  have HI := hide hinf
  have HZ := hide hz
  clear hB hz hinf
  go_enter Tryd.func20, Tryd.ntmps20
  go_wp2_with fail
  have hA0 : Hid (Arr ((w.alloc (.cells z 45)).alloc (.cells z 45)) (w.heap.size + 1) 45 zb) := by
    have := heap_alloc_new (w.alloc (.cells z 45)) (.cells z 45)
    rw [World.size_alloc] at this
    rw [unhide HZ] at this ⊢
    exact this
  have hR0 : Hid (Arr ((w.alloc (.cells z 45)).alloc (.cells z 45)) w.heap.size 45 zb) := by
    rw [unhide HZ]
    exact (Below.heap_alloc _ _ _ (by simp)).trans (heap_alloc_new w _)
  have hb0 : Hid (Below w.heap.size w ((w.alloc (.cells z 45)).alloc (.cells z 45))) := ((Below.refl _ _).alloc (Nat.le_refl _) _).alloc (by simp) _
  go_loopw [4] (fun i wr => ∃ k : Nat, k ≤ n ∧ i = .int .i64 k ∧ Hid (Arr wr (w.heap.size + 1) 45 (has (l.take k))) ∧ Hid (Arr wr w.heap.size 45 zb) ∧ Hid (Below w.heap.size w wr)) (fun i _ => n - (intOf i).toNat)
  case atStart => exact ⟨0, Nat.zero_le _, rfl, (unhide hA0).eq (fun c => by simp [zb, has]), hR0, hb0⟩
  case round =>
    clear hA0 hR0 hb0 hzero
    obtain ⟨k, hk, rfl, hA, hR, hnx⟩ := hrel
    by_cases hlt : k < n
    · obtain ⟨b, off, rfl, hbl, hcs⟩ : ∃ b off, a = some ⟨b, off, none⟩ ∧ b < w.heap.size ∧ ∀ i, i < n → w.cell? ⟨b, off + i, none⟩ = some (.int .u8 ((l.getD i 0).toNat : Int)) := by
        rcases (unhide HB).cells with h | h
        · omega
        · exact h
      have hc := ((unhide hnx).cell (p := ⟨b, off + k, none⟩) hbl).trans (hcs k hlt)
      have hts := hide (take_snoc l k (by rw [(unhide HB).len]; exact hlt))
      obtain ⟨c, hcc⟩ : ∃ c, c = l.getD k 0 := ⟨_, rfl⟩
      rw [← hcc] at hc hts
      have h256 : (c.toNat : Int) < 256 := by have := c.toNat_lt; omega
      have h0 : (0 : Int) ≤ (c.toNat : Int) := by omega
      have hcell := (unhide hA).cell c
      have hfz := (unhide hA).frozen c.toNat
      have hA2 : Hid (Arr (wr.setCell ⟨w.heap.size + 1, c.toNat, none⟩ (.bool true)) (w.heap.size + 1) 45 (has (l.take (k + 1)))) := by
        refine ((unhide hA).set c (.bool true)).eq (fun d => ?_)
        rw [unhide hts]
        unfold has
        by_cases e : d = c
        · simp [e]
        · simp [e]
      have hR2 : Hid (Arr (wr.setCell ⟨w.heap.size + 1, c.toNat, none⟩ (.bool true)) w.heap.size 45 zb) := (unhide hR).other _ _ (by simp)
      have hb2 : Hid (Below w.heap.size w (wr.setCell ⟨w.heap.size + 1, c.toNat, none⟩ (.bool true))) := (unhide hnx).setCell (p := ⟨w.heap.size + 1, c.toNat, none⟩) (Nat.le_succ _) _
      clear hcs hcc hts
      go_wp2_with fail
      go_roundw
      case rel => exact ⟨k + 1, by omega, by go_num, hA2, hR2, hb2⟩
      case measure => simp [intOf]; omega
    · have hkn : Hid (l.take k = l) := List.take_of_length_le (by rw [(unhide HB).len]; omega)
      rw [unhide hkn] at hA
      have hld := hide (run_load_arr (unhide hA) Tryd.underlying45 (by rw [tab_size]; exact unhide HI))
      have hst := hide (run_store_arr (unhide hR) (c' := tab (has l)) (by rw [tab_size]; exact unhide HI) (by rw [tab_size, tab_size]) (tab_one _ (fun _ => rfl)))
      have hA9 := hide ((unhide hR).setRow (has l))
      have hb9 : Hid (Below w.heap.size w (wr.setRow w.heap.size (tab (has l)))) := below_setRow (unhide hnx) (Nat.le_refl _) _
      generalize wr.setRow w.heap.size (tab (has l)) = w9 at *
      have hld9 := hide (run_loadVar_row _ _ _ _ _ _ _ (unhide hA9) Tryd.underlying45 rfl (by rw [tab_size]; exact unhide HI))
      obtain ⟨A, hAe⟩ : ∃ A, A = tab (has l) := ⟨_, rfl⟩
      rw [← hAe] at hld hst hld9
      have HAE := hide hAe
      clear hkn hA hR hA9 hAe
      go_wp2_with (first | (refine wpList_load_arr _ rfl _ 45 rfl _ rfl _ (by exact unhide hld) ?_) | (refine wpList_store_arr _ rfl _ _ 45 rfl _ rfl _ rfl _ (by exact unhide hst) ?_))
      refine bodyPost_ret (v := .agg A) ?_ rfl ⟨by rw [unhide HAE], unhide hb9⟩
      rw [results_cell rfl]
      simp [asAddr, Result.andThen, Act.put, unhide hld9]

set_option maxHeartbeats 1000000 in
set_option maxRecDepth 100000 in
theorem refDrop_any (s : ByteArray) (a : Option Addr) (n cap c' : Nat) (l : Bs) (w : World) (hB : By w a n c' l) (hn : n ≤ 4611686018427387904) (hs : s.size ≤ 70368744177664) :
    Calls Tryd.prog 10 #[.string s, .slice a n cap] w fun e w' => e = .returned (.string ⟨(drop (bs s) l).toArray⟩) ∧ Below w.heap.size w w' := by
  obtain ⟨i0, hi, hz0, hz1, hz2⟩ := info_parts Tryd.infoByte
  have C := hide (refHas_any a n cap c' l w hB hn)
  obtain ⟨hzero, hinf⟩ := zero_of_info Tryd.infoArrB
  obtain ⟨z, hz⟩ : ∃ z, z = tab zb := ⟨_, rfl⟩
  rw [← hz] at hzero
  have HZ := hide hz
  clear hB hz
  go_enter Tryd.func10, Tryd.ntmps10
  go_wp2_with fail
  refine (unhide C).mono ?_
  rintro e w1 ⟨rfl, hb1⟩
  have hs1 := hb1.size
  have hst := hide (run_storeAt_new (P := Tryd.prog) w1 45 z (tab (has l)) (by rw [tab_size]; exact hinf) (by rw [unhide HZ, tab_size, tab_size]) (tab_one _ (fun _ => rfl)))
  obtain ⟨w2, hw2⟩ : ∃ W, W = w1.alloc (.cells (tab (has l)) 45) := ⟨_, rfl⟩
  have hA1 : Hid (Arr w2 w1.heap.size 45 (has l)) := by rw [hw2]; exact heap_alloc_new w1 _
  have hb2 : Hid (Below w.heap.size w w2) := by rw [hw2]; exact hb1.alloc hs1 _
  have hsz2 : w2.heap.size = w1.heap.size + 1 := by rw [hw2]; simp
  have HSZ2 := hide hsz2
  rw [← hw2] at hst
  obtain ⟨A, hA⟩ : ∃ A, A = tab (has l) := ⟨_, rfl⟩
  rw [← hA] at hst ⊢
  clear hA hb1 hinf C hw2 hsz2 HZ
  go_wp2_with (refine wpList_store_arr _ rfl _ _ 45 rfl _ rfl _ rfl _ (by exact unhide hst) ?_)
  go_loopw [6, 7] (fun u i wr => ∃ k : Nat, k ≤ s.size ∧ i = .int .i64 k ∧ Hid (Row w2.heap.size u (drop ((bs s).take k) l) wr) ∧ Hid (Arr wr w1.heap.size 45 (has l)) ∧ Hid (Below w.heap.size w wr) ∧ w2.heap.size ≤ wr.heap.size) (fun _ i _ => s.size - (intOf i).toNat)
  case atStart => exact ⟨0, Nat.zero_le _, rfl, row_nil _ _, hA1, hb2, Nat.le_refl _⟩
  case round =>
    clear hA1 hb2 hst hzero
    obtain ⟨k, hk, rfl, hrow, hA, hnx, hsz⟩ := hrel
    by_cases hlt : k < s.size
    · have hlt' : (k : Int) < (s.size : Int) := by omega
      have hcell := (unhide hA).cell s[k]
      have h256 : (s[k].toNat : Int) < 256 := by have := s[k].toNat_lt; omega
      have hsn := hide (drop_snoc (bs s) l k s[k] _ (bs_at s k hlt))
      have hlen : (drop ((bs s).take k) l).length ≤ s.size := by have := drop_len ((bs s).take k) l; rw [List.length_take, bs_len] at this; omega
      obtain ⟨L, hL⟩ : ∃ L, L = drop ((bs s).take k) l := ⟨_, rfl⟩
      rw [← hL] at hrow hsn hlen
      clear hL
      unfold has at hcell
      cases he : l.elem s[k]
      · rw [he] at hcell hsn
        clear he
        go_wp2_with (at_builtin; refine wpList_append_own _ rfl _ _ 22 rfl w2.heap.size 5 i0 (.int .u8 0) 1 1 Tryd.underlying22 hi hz0 hz1 hz2 rfl (by decide) _ _ _ rfl ((unhide hrow).alloc _) ⟨wr.heap.size, 0, none⟩ 1 1 [.int .u8 (s[k].toNat : Int)] rfl rfl (byte_new _ _ _) (byte_one _) (by unfold maxLen; omega) (by omega) (by simp; omega) ?_; intro v' w9 hown9 hg9 hnil9)
        have hn' : Hid (Row w2.heap.size v' (drop ((bs s).take (k + 1)) l) w9) := by rw [unhide hsn]; exact row_snoc hown9 rfl
        have hB9' : Below w2.heap.size wr w9 := (Below.refl _ _).grown (grown_alloc hg9) hsz (row_lo (unhide hrow))
        have hB9 : Hid (Below w.heap.size w w9) := (unhide hnx).trans (hB9'.mono (by have := unhide HSZ2; omega))
        have hA9 := hide ((unhide hA).belowB hB9' (by have := unhide HSZ2; omega))
        have hs9 : w2.heap.size ≤ w9.heap.size := Nat.le_trans hsz hB9'.size
        clear hown9 hg9 hnil9 hB9' hrow hA hnx
        go_roundw
        case rel => exact ⟨k + 1, by omega, by go_num, hn', hA9, hB9, hs9⟩
        case measure => simp [intOf]; omega
      · rw [he] at hcell hsn
        clear he
        have hn' : Hid (Row w2.heap.size u6 (drop ((bs s).take (k + 1)) l) wr) := by rw [unhide hsn]; simpa [Hid] using unhide hrow
        clear hsn hrow
        go_wp2_with fail
        go_roundw
        case rel => exact ⟨k + 1, by omega, by go_num, hn', hA, hnx, hsz⟩
        case measure => simp [intOf]; omega
    · have hkn : Hid ((bs s).take k = bs s) := List.take_of_length_le (by rw [bs_len]; omega)
      rw [unhide hkn] at hrow
      have hcv := cv_back _ (unhide hrow)
      obtain ⟨R, hR⟩ : ∃ R : ByteArray, R = ⟨(drop (bs s) l).toArray⟩ := ⟨_, rfl⟩
      rw [← hR] at hcv
      have HR := hide hR
      obtain ⟨aa, cc, hv⟩ := row_slice (unhide hrow)
      obtain ⟨N, hN⟩ : ∃ N, N = (drop (bs s) l).length := ⟨_, rfl⟩
      rw [← hN] at hv
      rw [hv] at hcv
      clear hkn hrow hR hN
      subst hv
      go_wp2_with fail
      go_ret
      exact ⟨by rw [← unhide HR]; rfl, unhide hnx⟩

set_option maxHeartbeats 1000000 in
set_option maxRecDepth 100000 in
theorem refSqueeze_any (s : ByteArray) (a : Option Addr) (n cap c' : Nat) (l : Bs) (w : World) (hB : By w a n c' l) (hn : n ≤ 4611686018427387904) (hs : s.size ≤ 70368744177664) :
    Calls Tryd.prog 12 #[.string s, .slice a n cap] w fun e w' => e = .returned (.string ⟨(squeeze (bs s) l).toArray⟩) ∧ Below w.heap.size w w' := by
  obtain ⟨i0, hi, hz0, hz1, hz2⟩ := info_parts Tryd.infoByte
  have C := hide (refHas_any a n cap c' l w hB hn)
  obtain ⟨hzero, hinf⟩ := zero_of_info Tryd.infoArrB
  obtain ⟨z, hz⟩ : ∃ z, z = tab zb := ⟨_, rfl⟩
  rw [← hz] at hzero
  have HZ := hide hz
  clear hB hz
  go_enter Tryd.func12, Tryd.ntmps12
  go_wp2_with fail
  refine (unhide C).mono ?_
  rintro e w1 ⟨rfl, hb1⟩
  have hs1 := hb1.size
  have hst := hide (run_storeAt_new (P := Tryd.prog) w1 45 z (tab (has l)) (by rw [tab_size]; exact hinf) (by rw [unhide HZ, tab_size, tab_size]) (tab_one _ (fun _ => rfl)))
  obtain ⟨w2, hw2⟩ : ∃ W, W = w1.alloc (.cells (tab (has l)) 45) := ⟨_, rfl⟩
  have hA1 : Hid (Arr w2 w1.heap.size 45 (has l)) := by rw [hw2]; exact heap_alloc_new w1 _
  have hb2 : Hid (Below w.heap.size w w2) := by rw [hw2]; exact hb1.alloc hs1 _
  have hsz2 : w2.heap.size = w1.heap.size + 1 := by rw [hw2]; simp
  have HSZ2 := hide hsz2
  rw [← hw2] at hst
  obtain ⟨A, hA⟩ : ∃ A, A = tab (has l) := ⟨_, rfl⟩
  rw [← hA] at hst ⊢
  clear hA hb1 hinf C hw2 hsz2 HZ
  go_wp2_with (refine wpList_store_arr _ rfl _ _ 45 rfl _ rfl _ rfl _ (by exact unhide hst) ?_)
  go_loopw [6, 7] (fun u i wr => ∃ k : Nat, k ≤ s.size ∧ i = .int .i64 k ∧ Hid (Row w2.heap.size u (squeeze ((bs s).take k) l) wr) ∧ Hid (Arr wr w1.heap.size 45 (has l)) ∧ Hid (Below w.heap.size w wr) ∧ w2.heap.size ≤ wr.heap.size) (fun _ i _ => s.size - (intOf i).toNat)
  case atStart => exact ⟨0, Nat.zero_le _, rfl, row_nil _ _, hA1, hb2, Nat.le_refl _⟩
  case round =>
    clear hA1 hb2 hst hzero
    obtain ⟨k, hk, rfl, hrow, hA, hnx, hsz⟩ := hrel
    by_cases hlt : k < s.size
    · have hlt' : (k : Int) < (s.size : Int) := by omega
      have hcell := (unhide hA).cell s[k]
      have h256 : (s[k].toNat : Int) < 256 := by have := s[k].toNat_lt; omega
      have hsn := hide (sq_snoc (bs s) l k s[k] _ (bs_at s k hlt))
      have hlen : (squeeze ((bs s).take k) l).length ≤ s.size := by have := sq_len ((bs s).take k) l; rw [List.length_take, bs_len] at this; omega
      unfold has at hcell
      obtain ⟨L, hL⟩ : ∃ L, L = squeeze ((bs s).take k) l := ⟨_, rfl⟩
      rw [← hL] at hsn hrow hlen
      clear hL
      rcases (show k = 0 ∨ 0 < k from by omega) with h0 | h0
      · have e1 : Hid (squeeze ((bs s).take (k + 1)) l = L ++ [s[k]]) := by
          rw [unhide hsn, if_neg (fun h => by have := h.1; unfold ahead at this; rw [if_pos h0] at this; cases this)]; exact rfl
        have t0 : ((k : Int) == 0) = true := by simp [h0]
        clear hsn h0
        go_wp2_with fail
        go_quiet (fail)
        have R1 := hide (row_below (unhide hrow) (below_drew wr nq))
        have A1 := hide ((unhide hA).below (below_drew wr nq))
        have X1 : Hid (Below w.heap.size w (wr.drewN nq)) := (unhide hnx).trans ((below_drew wr nq).mono (unhide hnx).size)
        have S1 : w2.heap.size ≤ (wr.drewN nq).heap.size := hsz
        generalize wr.drewN nq = w3 at *
        clear hrow hA hnx hcell
        go_wp2_with (at_builtin; refine wpList_append_own _ rfl _ _ 22 rfl w2.heap.size 5 i0 (.int .u8 0) 1 1 Tryd.underlying22 hi hz0 hz1 hz2 rfl (by decide) _ _ _ rfl ((unhide R1).alloc _) ⟨w3.heap.size, 0, none⟩ 1 1 [.int .u8 (s[k].toNat : Int)] rfl rfl (byte_new _ _ _) (byte_one _) (by unfold maxLen; omega) (by omega) (by simp; omega) ?_; intro v' w9 hown9 hg9 hnil9)
        have hn' : Hid (Row w2.heap.size v' (squeeze ((bs s).take (k + 1)) l) w9) := by rw [unhide e1]; exact row_snoc hown9 rfl
        have hB9' : Below w2.heap.size w3 w9 := (Below.refl _ _).grown (grown_alloc hg9) S1 (row_lo (unhide R1))
        have hB9 : Hid (Below w.heap.size w w9) := (unhide X1).trans (hB9'.mono (by have := unhide HSZ2; omega))
        have hA9 := hide ((unhide A1).belowB hB9' (by have := unhide HSZ2; omega))
        have hs9 : w2.heap.size ≤ w9.heap.size := Nat.le_trans S1 hB9'.size
        clear hown9 hg9 hnil9 hB9' R1 A1 X1 e1
        go_roundw
        case rel => exact ⟨k + 1, by omega, by go_num, hn', hA9, hB9, hs9⟩
        case measure => simp [intOf]; omega
      · have t0 : ((k : Int) == 0) = false := by simp; omega
        obtain ⟨j, rfl⟩ : ∃ j, k = j + 1 := ⟨k - 1, by omega⟩
        have hah : ahead (bs s) (j + 1) = some s[j] := by
          unfold ahead
          rw [if_neg (by omega)]
          show (bs s)[j]? = _
          rw [List.getElem?_eq_getElem (by rw [bs_len]; omega)]
          rfl
        have t0 : ((j : Int) + 1 == 0) = false := by simp; omega
        have hy : (j : Int) + 1 < (s.size : Int) := by omega
        have hy2 : (j : Int) < (s.size : Int) := by omega
        have hy0 : (0 : Int) ≤ (j : Int) + 1 := by omega
        have htn : ((j : Int) + 1).toNat = j + 1 := by omega
        have hjj : (j : Int) + 1 - 1 = (j : Int) := by omega
        clear hlt'
        by_cases heq : (s[j].toNat : Int) = (s[j + 1].toNat : Int)
        · have t1 : ((s[j].toNat : Int) != (s[j + 1].toNat : Int)) = false := by simp [heq]
          have heq' := u8_eq heq
          cases he : l.elem s[j + 1]
          · have e1 : Hid (squeeze ((bs s).take (j + 1 + 1)) l = L ++ [s[j + 1]]) := by
              rw [unhide hsn, he, if_neg (fun h => by cases h.2)]; exact rfl
            rw [he] at hcell
            clear hsn he heq heq' hah
            go_wp2_with fail
            go_quiet (fail)
            have R1 := hide (row_below (unhide hrow) (below_drew wr nq))
            have A1 := hide ((unhide hA).below (below_drew wr nq))
            have X1 : Hid (Below w.heap.size w (wr.drewN nq)) := (unhide hnx).trans ((below_drew wr nq).mono (unhide hnx).size)
            have S1 : w2.heap.size ≤ (wr.drewN nq).heap.size := hsz
            generalize wr.drewN nq = w3 at *
            clear hrow hA hnx hcell
            go_wp2_with (at_builtin; refine wpList_append_own _ rfl _ _ 22 rfl w2.heap.size 5 i0 (.int .u8 0) 1 1 Tryd.underlying22 hi hz0 hz1 hz2 rfl (by decide) _ _ _ rfl ((unhide R1).alloc _) ⟨w3.heap.size, 0, none⟩ 1 1 [.int .u8 (s[j + 1].toNat : Int)] rfl rfl (byte_new _ _ _) (byte_one _) (by unfold maxLen; omega) (by omega) (by simp; omega) ?_; intro v' w9 hown9 hg9 hnil9)
            have hn' : Hid (Row w2.heap.size v' (squeeze ((bs s).take ((j + 1) + 1)) l) w9) := by rw [unhide e1]; exact row_snoc hown9 rfl
            have hB9' : Below w2.heap.size w3 w9 := (Below.refl _ _).grown (grown_alloc hg9) S1 (row_lo (unhide R1))
            have hB9 : Hid (Below w.heap.size w w9) := (unhide X1).trans (hB9'.mono (by have := unhide HSZ2; omega))
            have hA9 := hide ((unhide A1).belowB hB9' (by have := unhide HSZ2; omega))
            have hs9 : w2.heap.size ≤ w9.heap.size := Nat.le_trans S1 hB9'.size
            clear hown9 hg9 hnil9 hB9' R1 A1 X1 e1
            go_roundw
            case rel => exact ⟨(j + 1) + 1, by omega, by go_num, hn', hA9, hB9, hs9⟩
            case measure => simp [intOf]; omega
          · have e1 : Hid (squeeze ((bs s).take (j + 1 + 1)) l = L) := by
              rw [unhide hsn, he, if_pos ⟨by rw [hah, heq'], rfl⟩]; simp [Hid]
            rw [he] at hcell
            have hI4 : Hid (∀ q, Row w2.heap.size u6 (squeeze ((bs s).take (j + 1 + 1)) l) (wr.drewN q)) := fun q => by
              rw [unhide e1]; exact row_below (unhide hrow) (below_drew wr q)
            have hB4 : Hid (∀ q, Below w.heap.size w (wr.drewN q)) := fun q => (unhide hnx).trans ((below_drew wr q).mono (unhide hnx).size)
            clear hsn e1 he heq heq' hah hrow
            go_wp2_with fail
            go_quiet (fail)
            go_wp2_with fail
            go_roundw
            case rel => exact ⟨j + 1 + 1, by omega, by go_num, unhide hI4 nq, hA, unhide hB4 nq, hsz⟩
            case measure => simp [intOf]; omega
        · have t1 : ((s[j].toNat : Int) != (s[j + 1].toNat : Int)) = true := by simp; omega
          have e1 : Hid (squeeze ((bs s).take (j + 1 + 1)) l = L ++ [s[j + 1]]) := by
            rw [unhide hsn, if_neg (fun h => by rw [hah] at h; have := Option.some.inj h.1; rw [this] at heq; exact heq rfl)]; exact rfl
          clear hsn heq hah
          go_wp2_with fail
          go_quiet (fail)
          have R1 := hide (row_below (unhide hrow) (below_drew wr nq))
          have A1 := hide ((unhide hA).below (below_drew wr nq))
          have X1 : Hid (Below w.heap.size w (wr.drewN nq)) := (unhide hnx).trans ((below_drew wr nq).mono (unhide hnx).size)
          have S1 : w2.heap.size ≤ (wr.drewN nq).heap.size := hsz
          generalize wr.drewN nq = w3 at *
          clear hrow hA hnx hcell
          go_wp2_with (at_builtin; refine wpList_append_own _ rfl _ _ 22 rfl w2.heap.size 5 i0 (.int .u8 0) 1 1 Tryd.underlying22 hi hz0 hz1 hz2 rfl (by decide) _ _ _ rfl ((unhide R1).alloc _) ⟨w3.heap.size, 0, none⟩ 1 1 [.int .u8 (s[j + 1].toNat : Int)] rfl rfl (byte_new _ _ _) (byte_one _) (by unfold maxLen; omega) (by omega) (by simp; omega) ?_; intro v' w9 hown9 hg9 hnil9)
          have hn' : Hid (Row w2.heap.size v' (squeeze ((bs s).take ((j + 1) + 1)) l) w9) := by rw [unhide e1]; exact row_snoc hown9 rfl
          have hB9' : Below w2.heap.size w3 w9 := (Below.refl _ _).grown (grown_alloc hg9) S1 (row_lo (unhide R1))
          have hB9 : Hid (Below w.heap.size w w9) := (unhide X1).trans (hB9'.mono (by have := unhide HSZ2; omega))
          have hA9 := hide ((unhide A1).belowB hB9' (by have := unhide HSZ2; omega))
          have hs9 : w2.heap.size ≤ w9.heap.size := Nat.le_trans S1 hB9'.size
          clear hown9 hg9 hnil9 hB9' R1 A1 X1 e1
          go_roundw
          case rel => exact ⟨(j + 1) + 1, by omega, by go_num, hn', hA9, hB9, hs9⟩
          case measure => simp [intOf]; omega
    · have hkn : Hid ((bs s).take k = bs s) := List.take_of_length_le (by rw [bs_len]; omega)
      rw [unhide hkn] at hrow
      have hcv := cv_back _ (unhide hrow)
      obtain ⟨R, hR⟩ : ∃ R : ByteArray, R = ⟨(squeeze (bs s) l).toArray⟩ := ⟨_, rfl⟩
      rw [← hR] at hcv
      have HR := hide hR
      obtain ⟨aa, cc, hv⟩ := row_slice (unhide hrow)
      obtain ⟨N, hN⟩ : ∃ N, N = (squeeze (bs s) l).length := ⟨_, rfl⟩
      rw [← hN] at hv
      rw [hv] at hcv
      clear hkn hrow hR hN
      subst hv
      go_wp2_with fail
      go_ret
      exact ⟨by rw [← unhide HR]; rfl, unhide hnx⟩
end Go.Proofs.YtjgboecifonjdaaDoor.Se
