/- What the document's place and Swap answer. -/
import Derived.Test.YtjgboecifonjdaaSeSwap
import Derived.Test.YtjgboecifonjdaaSeFacts
namespace Go.Proofs.Ytjgboecifonjdaa.Se
open Go.RowKit

theorem idx_take {f : Bs} {k : Nat} {c : UInt8} (h : (f.take k).elem c = false) (hk : k < f.length) (hc : f.getD k 0 = c) : f.elem c = true ∧ f.idxOf c = k := by
  have e : f = f.take k ++ c :: f.drop (k + 1) := by
    conv => lhs; rw [← List.take_append_drop k f]
    rw [List.drop_eq_getElem_cons hk, show f[k] = c from by rw [← hc]; simp [List.getD, List.getElem?_eq_getElem hk]]
  have hn : c ∉ f.take k := fun hm => by rw [List.elem_iff.2 hm] at h; cases h
  constructor
  · rw [e]; simp
  · rw [e, List.idxOf_append, if_neg hn]
    simp; omega
theorem take_not {f : Bs} {k : Nat} {c : UInt8} (h : (f.take k).elem c = false) (hk : k < f.length) (hc : f.getD k 0 ≠ c) : (f.take (k + 1)).elem c = false := by
  rw [take_snoc f k hk]
  have h1 : c ∉ f.take k := fun hm => by rw [List.elem_iff.2 hm] at h; cases h
  have h2 : ¬ c = f.getD k 0 := fun e => hc e.symm
  rw [Bool.eq_false_iff]
  intro hm
  rcases List.mem_append.1 (List.elem_iff.1 hm) with h3 | h3
  · exact h1 h3
  · simp at h3; exact h2 h3
def placeI (l : Bs) (c : UInt8) : Int := if l.elem c = true then (l.idxOf c : Int) else -1

set_option maxHeartbeats 400000 in
theorem place_any (a : Option Addr) (n cap c' : Nat) (l : Bs) (c : UInt8) (w : World) (h1 : By w a n c' l) (hn : n ≤ 4611686018427387904) :
    Calls Try.prog 16 #[.slice a n cap, .int .u8 c.toNat] w fun e w' => e = .returned (.int .i64 (placeI l c)) ∧ w' = w := by
  have H1 := hide h1
  clear h1
  go_enter Try.func16, Try.ntmps16
  go_wp2
  go_loopw [5] (fun i wr => ∃ k : Nat, k ≤ n ∧ i = .int .i64 k ∧ wr = w ∧ Hid ((l.take k).elem c = false)) (fun i _ => n - (intOf i).toNat)
  case atStart => exact ⟨0, Nat.zero_le _, rfl, by trivial, by simp [Hid]⟩
  case round =>
    obtain ⟨k, hk, rfl, rfl, hr⟩ := hrel
    by_cases hlt : k < n
    · have hlt' : (k : Int) < (n : Int) := by omega
      obtain ⟨b1, o1, rfl, _, hcs1⟩ : ∃ b off, a = some ⟨b, off, none⟩ ∧ b < wr.heap.size ∧ ∀ i, i < n → wr.cell? ⟨b, off + i, none⟩ = some (.int .u8 ((l.getD i 0).toNat : Int)) := by
        rcases (unhide H1).cells with h | h
        · omega
        · exact h
      have hc1 := hcs1 k hlt
      have hkl : k < l.length := by rw [(unhide H1).len]; exact hlt
      obtain ⟨x, hx⟩ : ∃ x, x = l.getD k 0 := ⟨_, rfl⟩
      rw [← hx] at hc1
      by_cases he : (x.toNat : Int) = (c.toNat : Int)
      · have hf : Hid (placeI l c = (k : Int)) := by
          obtain ⟨h1, h2⟩ := idx_take (unhide hr) hkl (by rw [← hx]; exact u8_eq he)
          unfold placeI; rw [if_pos h1, h2]; exact rfl
        have t1 : ((x.toNat : Int) == (c.toNat : Int)) = true := by simp [he]
        clear he hr hx hcs1 hkl
        go_wp2
        go_ret
        exact ⟨by rw [unhide hf]; rfl, rfl⟩
      · have hf := hide (take_not (unhide hr) hkl (by rw [← hx]; exact u8_ne he))
        have t1 : ((x.toNat : Int) == (c.toNat : Int)) = false := by simp; omega
        clear he hr hx hcs1 hkl
        go_wp2
        go_roundw
        case rel => exact ⟨k + 1, by omega, by go_num, by trivial, hf⟩
        case measure => simp [intOf]; omega
    · have hf : Hid (placeI l c = -1) := by
        have := unhide hr
        rw [List.take_of_length_le (by rw [(unhide H1).len]; omega)] at this
        unfold placeI; rw [this]; exact rfl
      clear hr
      go_wp2
      go_ret
      exact ⟨by rw [unhide hf]; rfl, rfl⟩

theorem map_snoc (G : UInt8 → UInt8) (s : Bs) (k : Nat) (c : UInt8) (t : Bs) (h : s.drop k = c :: t) : (s.take (k + 1)).map G = (s.take k).map G ++ [G c] := by
  have hk : k < s.length := by
    have := congrArg List.length h
    rw [List.length_drop] at this; simp at this; omega
  have hc : s[k] = c := by rw [List.drop_eq_getElem_cons hk] at h; exact (List.cons.inj h).1
  rw [List.take_succ_eq_append_getElem hk, hc, List.map_append]; rfl

set_option maxHeartbeats 2000000 in
set_option maxRecDepth 100000 in
theorem refSwap_any (s : ByteArray) (a1 a2 : Option Addr) (n c1 d1 m c2 d2 : Nat) (f t : Bs) (w : World) (h1 : By w a1 n d1 f) (h2 : By w a2 m d2 t) (hnm : 0 < n → 0 < m) (hn : n ≤ 4611686018427387904) (hm : m ≤ 4611686018427387904) (hs : s.size ≤ 70368744177664) :
    Calls Try.prog 10 #[.string s, .slice a1 n c1, .slice a2 m c2] w fun e w' => e = .returned (.tuple #[.string ⟨((bs s).map (becomes f t)).toArray⟩, .int .i64 0]) ∧ Below w.heap.size w w' := by
  have H1 := hide h1
  have H2 := hide h2
  obtain ⟨hzero, hinf⟩ := zero_of_info Try.infoArrU
  obtain ⟨i0, hi, hz0, hz1, hz2⟩ := info_parts Try.infoByte
  obtain ⟨z, hz⟩ : ∃ z, z = tab zi := ⟨_, rfl⟩
  rw [← hz] at hzero
  have HZ := hide hz
  obtain ⟨G, hG⟩ : ∃ G, G = becomes f t := ⟨_, rfl⟩
  rw [← hG]
  have HGI : Hid (∀ c, f.elem c = false → G c = c) := fun c hc => by rw [hG]; exact becomes_out hc
  have HGT : Hid (∀ c, f.elem c = true → G c = t.getD (min (f.idxOf c) (t.length - 1)) 0) := fun c hc => by rw [hG]; exact becomes_in hc
  clear h1 h2 hz hG hinf
  have start : (((m : Int) == 0) = false) ∨ (((m : Int) == 0) = true ∧ ¬ 0 < n) := by
    by_cases h : m = 0
    · exact .inr ⟨by simp [h], fun h' => by have := hnm h'; omega⟩
    · exact .inl (by simp; omega)
  have HNM := hide hnm
  clear hnm
  rcases start with t1 | ⟨t1, t2⟩
  all_goals
    go_enter Try.func10, Try.ntmps10
    go_wp2_with fail
    have hA0 : Hid (Arr (w.alloc (.cells z 33)) w.heap.size 33 zi) := by
      rw [unhide HZ]; exact heap_alloc_new w _
    have hb0 : Hid (Below w.heap.size w (w.alloc (.cells z 33))) := (Below.refl _ _).alloc (Nat.le_refl _) _
    go_loopw [9] (fun i wr => ∃ k : Nat, k ≤ 256 ∧ i = .int .i64 k ∧ Hid (Arr wr w.heap.size 33 (fun c => .int .u8 (if c.toNat < k then ((G c).toNat : Int) else 0))) ∧ Hid (Below w.heap.size w wr)) (fun i _ => 256 - (intOf i).toNat)
    case atStart => exact ⟨0, Nat.zero_le _, rfl, (unhide hA0).eq (fun c => by simp [zi]), hb0⟩
    case round =>
      clear hA0 hb0 hzero
      obtain ⟨k, hk, rfl, hA, hnx⟩ := hrel
      by_cases hlt : k < 256
      · have hlt' : (k : Int) < 256 := by omega
        have hk255 : (k : Int) ≤ 255 := by omega
        obtain ⟨c, hc⟩ : ∃ c, c = UInt8.ofNat k := ⟨_, rfl⟩
        have hck : c.toNat = k := by rw [hc]; simp; omega
        have hcell := (unhide hA).cell c
        have hfz := (unhide hA).frozen c.toNat
        have nxt : Hid (∀ (W : World) (F : UInt8 → Value), Arr W w.heap.size 33 F → F c = .int .u8 ((G c).toNat : Int) → (∀ d, d ≠ c → F d = .int .u8 (if d.toNat < k then ((G d).toNat : Int) else 0)) → Arr W w.heap.size 33 (fun d => .int .u8 (if d.toNat < k + 1 then ((G d).toNat : Int) else 0))) := by
          intro W F hF e1 e2
          refine hF.eq (fun d => ?_)
          by_cases e : d = c
          · rw [e, e1, hck, if_pos (by omega)]
          · have : d.toNat ≠ k := fun h => e (UInt8.toNat_inj.1 (by omega))
            rw [e2 d e]
            by_cases h : d.toNat < k
            · rw [if_pos h, if_pos (by omega)]
            · rw [if_neg h, if_neg (by omega)]
        have hA1 := hide ((unhide hA).set c (.int .u8 (k : Int)))
        have hb1 : Hid (Below w.heap.size w (wr.setCell ⟨w.heap.size, k, none⟩ (.int .u8 (k : Int)))) := (unhide hnx).setCell (p := ⟨w.heap.size, k, none⟩) (Nat.le_refl _) _
        rw [hck] at hcell hfz hA1
        obtain ⟨w1, hw1⟩ : ∃ W, W = wr.setCell ⟨w.heap.size, k, none⟩ (.int .u8 (k : Int)) := ⟨_, rfl⟩
        rw [← hw1] at hA1 hb1
        have C := hide (place_any a1 n c1 d1 f c w1 ((unhide H1).below (unhide hb1)) (by omega))
        have HCK := hide hck
        rw [hck] at C
        have HW1 := hide hw1
        clear hck hc hw1
        go_wp2_with fail
        rw [← unhide HW1]
        refine (unhide C).mono ?_
        rintro e w2 ⟨rfl, rfl⟩
        clear hcell hfz HW1 C
        cases he : f.elem c
        · have hp : placeI f c = -1 := by unfold placeI; rw [he]; rfl
          rw [hp]
          have hA2 := hide (unhide nxt w2 _ (unhide hA1) (by rw [if_pos rfl, unhide HGI c he, unhide HCK]) (fun d hd => by rw [if_neg hd]))
          clear hp nxt hA1 he
          go_wp2_with fail
          go_roundw
          case rel => exact ⟨k + 1, by omega, by go_num, hA2, hb1⟩
          case measure => simp [intOf]; omega
        · have hp : placeI f c = (f.idxOf c : Int) := by unfold placeI; rw [he]; rfl
          rw [hp]
          have hmem := List.elem_iff.1 he
          have hidx : f.idxOf c < f.length := List.idxOf_lt_length_iff.2 hmem
          rw [(unhide H1).len] at hidx
          have hm1 : 0 < m := unhide HNM (by omega)
          have hgt := unhide HGT c he
          obtain ⟨x, hx⟩ : ∃ x, x = f.idxOf c := ⟨_, rfl⟩
          rw [← hx] at hidx hgt ⊢
          obtain ⟨b2, o2, rfl, hbl2, hcs2⟩ : ∃ b off, a2 = some ⟨b, off, none⟩ ∧ b < w.heap.size ∧ ∀ i, i < m → w.cell? ⟨b, off + i, none⟩ = some (.int .u8 ((t.getD i 0).toNat : Int)) := by
            rcases (unhide H2).cells with h | h
            · omega
            · exact h
          have hmin : min x (t.length - 1) < m := by rw [(unhide H2).len]; omega
          have hc2 := ((unhide hb1).cell (p := ⟨b2, o2 + min x (t.length - 1), none⟩) hbl2).trans (hcs2 _ hmin)
          rw [← hgt, (unhide H2).len] at hc2
          have e2 : (min (x : Int) ((m : Int) - 1)).toNat = min x (m - 1) := by omega
          rw [← e2] at hc2
          have e3 : min (x : Int) ((m : Int) - 1) < (m : Int) := by omega
          have e4 : 0 ≤ min (x : Int) ((m : Int) - 1) := by omega
          have e5 : (0 : Int) ≤ (x : Int) := by omega
          first
          | (exfalso; omega; done)
          | (
            have hcell := (unhide hA1).cell c
            have hfz := (unhide hA1).frozen c.toNat
            have hA2 := hide ((unhide hA1).set c (.int .u8 ((G c).toNat : Int)))
            have hA3 := hide (unhide nxt _ _ (unhide hA2) (by rw [if_pos rfl]) (fun d hd => by rw [if_neg hd, if_neg hd]))
            have hb2 : Hid (Below w.heap.size w (w2.setCell ⟨w.heap.size, c.toNat, none⟩ (.int .u8 ((G c).toNat : Int)))) := (unhide hb1).setCell (p := ⟨w.heap.size, c.toNat, none⟩) (Nat.le_refl _) _
            rw [unhide HCK] at hcell hfz hA3 hb2
            obtain ⟨y, hy⟩ : ∃ y, y = ((G c).toNat : Int) := ⟨_, rfl⟩
            rw [← hy] at hA3 hb2 hc2
            clear hp nxt hA1 hA2 he hmem hgt hx hcs2 hmin e2 hy hb1
            go_wp2_with fail
            go_roundw
            case rel => exact ⟨k + 1, by omega, by go_num, hA3, hb2⟩
            case measure => simp [intOf]; omega)
      · have hA1 : Hid (Arr wr w.heap.size 33 (u8v G)) := (unhide hA).eq (fun c => by rw [if_pos (by have := c.toNat_lt; omega)]; rfl)
        have hsz := (unhide hA).lt
        have hge : ¬ (k : Int) < 256 := by omega
        clear hA
        go_wp2_with fail
        go_loopw [11, 12] (fun u i wq => ∃ k : Nat, k ≤ s.size ∧ i = .int .i64 k ∧ Hid (Row (w.heap.size + 1) u (((bs s).take k).map G) wq) ∧ Hid (Arr wq w.heap.size 33 (u8v G)) ∧ Hid (Below w.heap.size w wq) ∧ w.heap.size + 1 ≤ wq.heap.size) (fun _ i _ => s.size - (intOf i).toNat)
        case atStart => exact ⟨0, Nat.zero_le _, rfl, row_nil _ _, hA1, hnx, hsz⟩
        case round =>
          clear hA1 hnx hsz
          obtain ⟨k, hk, rfl, hrow, hA, hnx, hsz⟩ := hrel
          by_cases hlt : k < s.size
          · have hlt' : (k : Int) < (s.size : Int) := by omega
            have h256 : (s[k].toNat : Int) < 256 := by have := s[k].toNat_lt; omega
            have hcell := (unhide hA).cell s[k]
            unfold u8v at hcell
            have hms := hide (map_snoc G (bs s) k s[k] _ (bs_at s k hlt))
            have hlen : (((bs s).take k).map G).length ≤ s.size := by rw [List.length_map, List.length_take, bs_len]; omega
            obtain ⟨L, hL⟩ : ∃ L, L = ((bs s).take k).map G := ⟨_, rfl⟩
            rw [← hL] at hrow hms hlen
            obtain ⟨y, hy⟩ : ∃ y, y = G s[k] := ⟨_, rfl⟩
            rw [← hy] at hcell hms
            clear hL hy
            go_wp2_with (at_builtin; refine wpList_append_own _ rfl _ _ 22 rfl (w.heap.size + 1) 5 i0 (.int .u8 0) 1 1 Try.underlying22 hi hz0 hz1 hz2 rfl (by decide) _ _ _ rfl ((unhide hrow).alloc _) ⟨wr.heap.size, 0, none⟩ 1 1 [.int .u8 (y.toNat : Int)] rfl rfl (byte_new _ _ _) (byte_one _) (by unfold maxLen; omega) (by omega) (by simp; omega) ?_; intro v' w9 hown9 hg9 hnil9)
            have hn : Hid (Row (w.heap.size + 1) v' (((bs s).take (k + 1)).map G) w9) := by rw [unhide hms]; exact row_snoc hown9 rfl
            have hB9' : Below (w.heap.size + 1) wr w9 := (Below.refl _ _).grown (grown_alloc hg9) hsz (row_lo (unhide hrow))
            have hB9 : Hid (Below w.heap.size w w9) := (unhide hnx).trans (hB9'.mono (Nat.le_succ _))
            have hA9 : Hid (Arr w9 w.heap.size 33 (u8v G)) := (unhide hA).belowB hB9' (Nat.lt_succ_self _)
            have hs9 : w.heap.size + 1 ≤ w9.heap.size := Nat.le_trans hsz hB9'.size
            clear hown9 hg9 hnil9 hB9' hrow hA hnx
            go_roundw
            case rel => exact ⟨k + 1, by omega, by go_num, hn, hA9, hB9, hs9⟩
            case measure => simp [intOf]; omega
          · have hkn : Hid ((bs s).take k = bs s) := List.take_of_length_le (by rw [bs_len]; omega)
            rw [unhide hkn] at hrow
            have hcv := cv_back _ (unhide hrow)
            obtain ⟨R, hR⟩ : ∃ R : ByteArray, R = ⟨((bs s).map G).toArray⟩ := ⟨_, rfl⟩
            rw [← hR] at hcv
            have HR := hide hR
            obtain ⟨aa, cc, hv⟩ := row_slice (unhide hrow)
            obtain ⟨N, hN⟩ : ∃ N, N = ((bs s).map G).length := ⟨_, rfl⟩
            rw [← hN] at hv
            rw [hv] at hcv
            clear hkn hrow hR hN
            subst hv
            go_wp2_with fail
            go_ret2
            exact ⟨by rw [← unhide HR]; rfl, unhide hnx⟩

theorem refSwap_none (s : ByteArray) (a1 a2 : Option Addr) (n c1 c2 : Nat) (w : World) (hn : 0 < n) :
    Calls Try.prog 10 #[.string s, .slice a1 n c1, .slice a2 0 c2] w fun e w' => e = .returned (.tuple #[.string { data := #[] }, .int .i64 1]) ∧ w' = w := by
  have t1 : (0 : Int) < (n : Int) := by omega
  go_enter Try.func10, Try.ntmps10
  go_wp2_with fail
  go_ret2
  exact ⟨rfl, rfl⟩
end Go.Proofs.Ytjgboecifonjdaa.Se
