/- What the document's own Number answers. -/
import Derived.Test.YtpfdjnnnemkoiaaGreatDoorCuNumZ
namespace Go.Proofs.YtpfdjnnnemkoiaaGreatDoor.Cu
open Go.RowKit Go.Shelf
open Pa (Tx)

theorem dec_small (u : Nat) (h : u < 10) : Lib.decDigits u = [UInt8.ofNat (48 + u)] := by rw [Lib.decDigits, dif_pos h]
theorem dec_big (u : Nat) (h : ¬ u < 10) : Lib.decDigits u = Lib.decDigits (u / 10) ++ [UInt8.ofNat (48 + u % 10)] := by rw [Lib.decDigits, dif_neg h]
def tenB : ByteArray := { data := #[48, 49, 50, 51, 52, 53, 54, 55, 56, 57] }
theorem tenB_at (d : Nat) (h : d < 10) : bs (tenB.extract d (d + 1)) = [UInt8.ofNat (48 + d)] := by
  match d, h with
  | 0, _ => decide +kernel
  | 1, _ => decide +kernel
  | 2, _ => decide +kernel
  | 3, _ => decide +kernel
  | 4, _ => decide +kernel
  | 5, _ => decide +kernel
  | 6, _ => decide +kernel
  | 7, _ => decide +kernel
  | 8, _ => decide +kernel
  | 9, _ => decide +kernel
set_option maxHeartbeats 400000 in
set_option maxRecDepth 100000 in
theorem rdigits_small (n : Nat) (w : World) (h : n < 10) : Calls Tryz.prog 16 #[.int .i64 n] w fun e w' => e = .returned (.string (tenB.extract n (n + 1))) ∧ w' = w := by
  have h1 : (n : Int) < 10 := by omega
  go_enter Tryz.func16, Tryz.ntmps16
  go_wp2
  go_ret
  exact ⟨rfl, rfl⟩
set_option maxHeartbeats 400000 in
set_option maxRecDepth 100000 in
theorem rdigits_big (n : Nat) (s : ByteArray) (w : World) (h : ¬ n < 10) (hn : n ≤ 9000000000) (hs : s.size ≤ 20) (C : ∀ w, Calls Tryz.prog 16 #[.int .i64 ((n / 10 : Nat) : Int)] w fun e w' => e = .returned (.string s) ∧ ∃ q, w' = w.drewN q) :
    Calls Tryz.prog 16 #[.int .i64 n] w fun e w' => e = .returned (.string (s ++ tenB.extract (n % 10) (n % 10 + 1))) ∧ ∃ q, w' = w.drewN q := by
  have h1 : ¬ (n : Int) < 10 := by omega
  have HC := hide C
  clear C
  go_enter Tryz.func16, Tryz.ntmps16
  go_wp2_with fail
  go_quiet ((go_at_call 16; exact Calls.quiet_of (unhide HC _)))
  go_wp2
  go_ret
  exact ⟨rfl, nq, rfl⟩
theorem rdigits_any (n : Nat) (hn : n ≤ 9000000000) : ∃ s : ByteArray, s = ⟨(Lib.decDigits n).toArray⟩ ∧ s.size ≤ 20 ∧ Hid (∀ w, Calls Tryz.prog 16 #[.int .i64 n] w fun e w' => e = .returned (.string s) ∧ ∃ q, w' = w.drewN q) := by
  induction n using Nat.strongRecOn with
  | _ n ih =>
    have hl : (Lib.decDigits n).length ≤ 20 := by rw [Lib.decDigits_length]; exact Lib.nDigits_le20 n (by omega)
    by_cases h : n < 10
    · have e : tenB.extract n (n + 1) = ⟨(Lib.decDigits n).toArray⟩ := by
        apply ByteArray.ext
        apply Array.ext'
        exact (tenB_at n h).trans (dec_small n h).symm
      refine ⟨_, rfl, hl, fun w => ?_⟩
      rw [← e]
      exact (rdigits_small n w h).mono fun _ _ ⟨h1, h2⟩ => ⟨h1, 0, h2⟩
    · obtain ⟨s, hs, hsz, C⟩ := ih (n / 10) (by omega) (by omega)
      have e : s ++ tenB.extract (n % 10) (n % 10 + 1) = ⟨(Lib.decDigits n).toArray⟩ := by
        apply ByteArray.ext
        apply Array.ext'
        have h1 := tenB_at (n % 10) (Nat.mod_lt _ (by omega))
        rw [dec_big n h, hs]
        simp [bs] at h1 ⊢
        exact h1
      refine ⟨_, rfl, hl, fun w => ?_⟩
      rw [← e]
      exact rdigits_big n s w h hn hsz (unhide C)

theorem pad_step (d : Bs) (j : Nat) : List.replicate (j + 1) (32 : UInt8) ++ d = 32 :: (List.replicate j 32 ++ d) := by rw [List.replicate_succ]; rfl

set_option maxRecDepth 100000 in
set_option maxHeartbeats 1000000 in
theorem rnumber_any (a : Option Addr) (n cap c' : Nat) (ss : List ByteArray) (fr wd : Int) (w : World) (hT : Tx w a n c' ss) (hn : n ≤ 1073741823) (hss : ∀ s ∈ ss, s.size ≤ 70368744177664) :
    Calls Tryz.prog 9 #[.slice a n cap, .int .i64 fr, .int .i64 wd] w fun e w' => ∃ v, e = .returned v ∧ RowS w.heap.size v (numL (inside wd 32) (inside fr 2147483647) (txs ss)) w' ∧ Below w.heap.size w w' := by
  obtain ⟨i1, hi1, hy0, hy1, hy2⟩ := info_parts Tryz.infoStr
  have HT := hide hT
  have hf := inside_le fr 2147483647
  have hw := inside_le wd 32
  have e1 : max 0 (min fr 2147483647) = ((inside fr 2147483647 : Nat) : Int) := by unfold inside; omega
  have e2 : max 0 (min wd 32) = ((inside wd 32 : Nat) : Int) := by unfold inside; omega
  obtain ⟨f, hf'⟩ : ∃ f, f = inside fr 2147483647 := ⟨_, rfl⟩
  obtain ⟨d, hd'⟩ : ∃ d, d = inside wd 32 := ⟨_, rfl⟩
  rw [← hf'] at e1 hf ⊢
  rw [← hd'] at e2 hw ⊢
  clear hf' hd' hT
  have hsl : ss.length = n := (unhide HT).len
  go_enter Tryz.func9, Tryz.ntmps9
  go_wp2_with fail
  go_loopw [7, 8] (fun u i wr => ∃ k : Nat, k ≤ n ∧ i = .int .i64 k ∧ Hid (RowS w.heap.size u (numL d f ((txs ss).take k)) wr) ∧ Hid (Below w.heap.size w wr)) (fun _ i _ => n - (intOf i).toNat)
  case atStart => exact ⟨0, by omega, rfl, by rw [List.take_zero]; exact World.ownsRow_nil _ _ _ _, Below.refl _ _⟩
  case round =>
    obtain ⟨k, hk, rfl, hrow, hbl⟩ := hrel
    have hsz := (unhide hbl).size
    by_cases hlt : k < n
    · have hlt' : (k : Int) < (n : Int) := by omega
      rcases (unhide HT).cells with h0 | ⟨b, off, rfl, hb, hc⟩
      · omega
      obtain ⟨x, hx⟩ : ∃ x, x = ss.getD k ByteArray.empty := ⟨_, rfl⟩
      have hxs : x.size ≤ 70368744177664 := by
        rw [hx]
        have : ss.getD k ByteArray.empty ∈ ss := by rw [List.getD, List.getElem?_eq_getElem (by omega)]; simp
        exact hss _ this
      have hcx : Hid (∀ W, Below w.heap.size w W → W.cell? ⟨b, off + k, none⟩ = some (.string x)) := fun W hW => by rw [hx]; exact (hW.cell hb).trans (hc k hlt)
      have hsn : Hid (numL d f ((txs ss).take (k + 1)) = numL d f ((txs ss).take k) ++ [numX (f + k) d (bs x)]) := by
        rw [getD_txs ss k (by omega), numL_snoc, ← hx]
        rw [List.length_take, Nat.min_eq_left (by simp; omega)]; exact rfl
      have hll : (numL d f ((txs ss).take k)).length = k := by rw [numL_len, List.length_take, Nat.min_eq_left (by simp; omega)]
      obtain ⟨q, hq, hqs, D⟩ := rdigits_any (f + k) (by omega)
      have hqb : Hid (bs q = Lib.decDigits (f + k)) := by rw [hq]; simp [bs, Hid]
      have hcast : ((f + k : Nat) : Int) = (f : Int) + (k : Int) := by omega
      rw [hcast] at D
      have HLL := hide hll
      clear hx hc hq hsl hll hcast
      go_wp2_with fail
      refine (unhide D wr).mono ?_
      rintro e w2 ⟨rfl, qq, hw2⟩
      have hB2 : Hid (Below w.heap.size w w2) := by rw [hw2]; exact below_drewN (unhide hbl) _
      have hrow2 : Hid (RowS w.heap.size u7 (numL d f ((txs ss).take k)) w2) := by rw [hw2]; exact unhide hrow
      clear D hw2 hrow hbl
      go_wp2_with fail
      go_loopw [9] (fun sv wr => ∃ (t : ByteArray) (j : Nat), sv = .string t ∧ Hid (bs t = List.replicate j 32 ++ bs q) ∧ t.size = j + q.size ∧ (j = 0 ∨ j + q.size ≤ d) ∧ Hid (wr = w2)) (fun sv _ => d - (match sv with | .string t => t.size | _ => 0))
      case atStart => exact ⟨q, 0, rfl, rfl, by omega, .inl rfl, rfl⟩
      case round =>
        obtain ⟨t, j, rfl, htb, hts, hjd, hwr⟩ := hrel
        have hwr' := unhide hwr
        subst hwr'
        by_cases hlt2 : t.size < d
        · have hlt2' : (t.size : Int) < (d : Int) := by omega
          obtain ⟨t2, ht2⟩ : ∃ t2 : ByteArray, t2 = { data := #[32] } ++ t := ⟨_, rfl⟩
          have ht2b : Hid (bs t2 = List.replicate (j + 1) 32 ++ bs q) := by
            rw [pad_step, ← unhide htb, ht2]; simp [bs, Hid]
          have ht2s : t2.size = 1 + t.size := by rw [ht2, ByteArray.size_append]; rfl
          have ht2' := ht2.symm
          clear ht2
          go_wp2_with fail
          go_roundw
          case rel => exact ⟨t2, j + 1, rfl, ht2b, by omega, .inr (by omega), by first | exact rfl | exact True.intro⟩
          case measure => simp only []; omega
        · have hge : ¬ (t.size : Int) < (d : Int) := by omega
          have htp : Hid (bs t = pad d (Lib.decDigits (f + k))) := by
            rw [unhide htb, ← unhide hqb]
            unfold pad
            rw [bs_len, show d - q.size = j by omega]; exact rfl
          have hts2 : t.size ≤ 53 := by omega
          have hcc := unhide hcx wr (unhide hB2)
          obtain ⟨y, hy⟩ : ∃ y, y = t ++ { data := #[9] } := ⟨_, rfl⟩
          have hyz1 : y.size = t.size + 1 := by rw [hy, ByteArray.size_append]; rfl
          have hyx : Hid (y ++ x = bt (numX (f + k) d (bs x))) := by
            apply ba_ext
            rw [hy]
            have : bs (t ++ { data := #[9] } ++ x) = bs t ++ [9] ++ bs x := by simp [bs]
            rw [this, unhide htp]
            simp [bs, bt, numX]
          have hy' := hy.symm
          obtain ⟨z, hz⟩ : ∃ z, z = y ++ x := ⟨_, rfl⟩
          have hz' := hz.symm
          have HZ : Hid (z = bt (numX (f + k) d (bs x))) := by rw [hz]; exact hyx
          have hlk : (numL d f ((txs ss).take k)).length ≤ 1073741823 := by rw [unhide HLL]; omega
          have hsz2 := (unhide hB2).size
          clear hy hz hyx htb hjd
          go_wp2_with (at_builtin; refine wpList_append_own _ rfl _ _ 22 rfl w.heap.size 9 i1 _ 1 16 Tryz.underlying22 hi1 hy0 hy1 hy2 rfl (by decide) _ _ _ rfl ((unhide hrow2).alloc _) ⟨wr.heap.size, 0, none⟩ 1 1 [.string z] rfl rfl (byte_new _ _ _) (by simp [Value.oneCell']) (by unfold maxLen; omega) (by omega) (by simp; omega) ?_; intro v' w9 hown9 hg9 hnil9; have hn' : Hid (RowS w.heap.size v' (numL d f ((txs ss).take (k + 1))) w9) := (by rw [unhide hsn]; show w9.ownsRow _ _ _ _ _ _; rw [cellsS_snoc, List.length_append, ← unhide HZ]; exact hown9); have hB9 : Hid (Below w.heap.size w w9) := (unhide hB2).grown (grown_alloc hg9) hsz2 (fun i hi => ((unhide hrow2).lt i hi).1); clear hown9 hg9 hnil9)
          go_roundw
          case rel => exact ⟨k + 1, by omega, by go_num, hn', hB9⟩
          case measure => simp [intOf]; omega
    · obtain rfl : k = n := by omega
      have hx : (txs ss).take k = txs ss := List.take_of_length_le (by simp; omega)
      rw [hx] at hrow
      go_wp2_with fail
      go_ret
      exact ⟨_, rfl, unhide hrow, unhide hbl⟩
end Go.Proofs.YtpfdjnnnemkoiaaGreatDoor.Cu
