/- What Number answers. -/
import Derived.Test.YtpfdjnnnemkoiabDoorCuNumP
import Derived.Test.YtpfdjnnnemkoiabDoorCuFold
import Derived.Test.YtpfdjnnnemkoiabDoorTexts
import Derived.Test.YtpfdjnnnemkoiabDoorCuList
import Derived.Lib.ItoaLen
import Derived.Lib.MinMax
namespace Go.Proofs.YtpfdjnnnemkoiabDoor.Cu
open Go.RowKit Go.Shelf
open Pa (Tx)

/-- the table that Itoa reads -/
abbrev Tab (w : World) : Prop := Lib.TabIs Tryd.prog w "internal/strconv.uint64pow10" .u64 Lib.pow10Tab
theorem Tryd.tabAt : (Tryd.prog.globalNamed "internal/strconv.uint64pow10").isSome = true := by kernel_rfl
theorem Tab.below {w w' : World} (h : Tab w) (hb : Below w.heap.size w w') : Tab w' := by
  obtain ⟨g, hg⟩ := Option.isSome_iff_exists.1 Tryd.tabAt
  unfold Tab Lib.TabIs World.var? at h ⊢
  rw [hg] at h ⊢
  simp only [Option.bind_some] at h ⊢
  have hlt : g < w.heap.size := by
    rcases Nat.lt_or_ge g w.heap.size with h' | h'
    · exact h'
    · rw [Array.getElem?_eq_none h'] at h; cases h
  rw [hb.block g hlt]
  exact h
theorem below_grow (w : World) (q : Nat) (os : Array Obj) : Below w.heap.size w (Sort.grow (w.drewN q) os) := by
  refine ⟨rfl, rfl, rfl, ?_, fun k hk => ?_⟩
  · show w.heap.size ≤ (w.heap ++ os).size
    simp
  · show (w.heap ++ os)[k]? = _
    exact Array.getElem?_append_left hk


set_option maxHeartbeats 1000000 in
theorem within_any (n : Int) (most : Nat) (w : World) :
    Calls Tryd.prog 33 #[.int .i64 n, .int .i64 most] w fun e w' => e = .returned (.int .i64 (inside n most)) ∧ w' = w := by
  have h : ((inside n most : Nat) : Int) = min (max n 0) (most : Int) := by unfold inside; omega
  rw [h]
  clear h
  go_enter Tryd.func33, Tryd.ntmps33
  go_wp2
  go_ret
  exact ⟨rfl, rfl⟩

set_option maxHeartbeats 1000000 in
theorem padded_any (d : ByteArray) (wd : Nat) (w : World) (hd : d.size ≤ 1000) (hw : wd ≤ 32) :
    Calls Tryd.prog 34 #[.string d, .int .i64 wd] w fun e w' => e = .returned (.string (bt (pad wd (bs d)))) ∧ Below w.heap.size w w' := by
  have H := hide (Tryd.strings_Repeat { data := #[32] } (wd - d.size) w (by omega) (by show 1 * _ ≤ _; omega))
  have hm : max ((wd : Int) - (d.size : Int)) 0 = ((wd - d.size : Nat) : Int) := by omega
  have he : Hid (∀ b : ByteArray, b = ⟨(Lib.repeatL [32] (wd - d.size)).toArray⟩ → b ++ d = bt (pad wd (bs d))) := fun b hb => by
    rw [hb, repeat_blank]
    apply ba_ext
    simp [bs, bt, pad]
  go_enter Tryd.func34, Tryd.ntmps34
  go_wp2_with fail
  refine (unhide H).mono ?_
  rintro e w1 ⟨rfl, hB⟩
  obtain ⟨b, hb⟩ : ∃ b : ByteArray, b = ⟨(Lib.repeatL [32] (wd - d.size)).toArray⟩ := ⟨_, rfl⟩
  have hbs : b.size ≤ 32 := by rw [hb, repeat_blank]; show (List.replicate (wd - d.size) (32 : UInt8)).toArray.size ≤ 32; rw [List.size_toArray, List.length_replicate]; omega
  rw [show (⟨(Lib.repeatL ({ data := #[32] } : ByteArray).data.toList (wd - d.size)).toArray⟩ : ByteArray) = b from hb.symm]
  have hx := hide (unhide he b hb)
  clear H he hb
  go_wp2_with fail
  go_ret
  exact ⟨by rw [← unhide hx]; rfl, hB⟩

theorem itoa_nat (k : Nat) : Lib.itoa (k : Int) = Lib.decDigits k := by unfold Lib.itoa; rw [if_neg (by omega)]; rfl
theorem digits_any (k : Nat) (w : World) (hk : k ≤ 9223372036854775807) (ht : Tab w) :
    Calls Tryd.prog 35 #[.int .i64 k, .int .i64 10] w fun e w' => e = .returned (.string (bt (Lib.decDigits k))) ∧ Below w.heap.size w w' :=
  (Tryd.strconv_FormatInt_10 (k : Int) (by omega) (by omega) w ht).mono fun e w' ⟨h1, q, os, h2⟩ => ⟨by rw [h1, itoa_nat]; rfl, h2 ▸ below_grow w q os⟩
theorem digits_len (k : Nat) (hk : k ≤ 9223372036854775807) : (Lib.decDigits k).length ≤ 21 := by rw [← itoa_nat]; exact Lib.itoa_length_le _ (by omega) (by omega)
/-- the texts' bytes -/
abbrev txs (ss : List ByteArray) : List Bs := ss.map bs
theorem getD_txs (ss : List ByteArray) (k : Nat) (h : k < ss.length) : (txs ss).take (k + 1) = (txs ss).take k ++ [bs (ss.getD k ByteArray.empty)] := by
  rw [List.take_succ_eq_append_getElem (by simpa using h)]
  simp [List.getD, List.getElem?_eq_getElem h]

set_option maxRecDepth 100000 in
set_option maxHeartbeats 1000000 in
theorem number_any (a : Option Addr) (n cap c' : Nat) (ss : List ByteArray) (fr wd : Int) (w : World) (hT : Tx w a n c' ss) (ht : Tab w) (hn : n ≤ 1073741823) (hss : ∀ s ∈ ss, s.size ≤ 70368744177664) :
    Calls Tryd.prog 16 #[.slice a n cap, .int .i64 fr, .int .i64 wd] w fun e w' => ∃ v, e = .returned v ∧ RowS w.heap.size v (numL (inside wd 32) (inside fr 2147483647) (txs ss)) w' ∧ Below w.heap.size w w' := by
  obtain ⟨i1, hi1, hy0, hy1, hy2⟩ := info_parts Tryd.infoStr
  have HT := hide hT
  have HTab := hide ht
  have h1 := hide (within_any fr 2147483647 w)
  have h2 := hide (within_any wd 32 w)
  have hf := inside_le fr 2147483647
  have hw := inside_le wd 32
  obtain ⟨f, hf'⟩ : ∃ f, f = inside fr 2147483647 := ⟨_, rfl⟩
  obtain ⟨d, hd'⟩ : ∃ d, d = inside wd 32 := ⟨_, rfl⟩
  rw [← hf'] at h1 hf ⊢
  rw [← hd'] at h2 hw ⊢
  clear hf' hd' hT ht
  have hsl : ss.length = n := (unhide HT).len
  go_enter Tryd.func16, Tryd.ntmps16
  go_wp2_with (go_at_call 33; first | (refine (unhide h1).mono ?_; rintro e w' ⟨rfl, rfl⟩) | (refine (unhide h2).mono ?_; rintro e w' ⟨rfl, rfl⟩))
  clear h1 h2
  go_loopw [7, 8, 17] (fun nx u i wr => ∃ k : Nat, k ≤ n ∧ i = .int .i64 k ∧ nx = .int .i64 ((f + k : Nat) : Int) ∧ Hid (RowS w'.heap.size u (numL d f ((txs ss).take k)) wr) ∧ Hid (Below w'.heap.size w' wr)) (fun _ _ i _ => n - (intOf i).toNat)
  case atStart => exact ⟨0, by omega, rfl, rfl, by rw [List.take_zero]; exact World.ownsRow_nil _ _ _ _, Below.refl _ _⟩
  case round =>
    obtain ⟨k, hk, rfl, rfl, hrow, hbl⟩ := hrel
    have hsz := (unhide hbl).size
    by_cases hlt : k < n
    · have hlt' : (k : Int) < (n : Int) := by omega
      rcases (unhide HT).cells with h0 | ⟨b, off, rfl, hb, hc⟩
      · omega
      obtain ⟨x, hx⟩ : ∃ x, x = ss.getD k ByteArray.empty := ⟨_, rfl⟩
      have hxs : x.size ≤ 70368744177664 := by
        rw [hx]
        have : ss.getD k ByteArray.empty ∈ ss := by rw [List.getD, List.getElem?_eq_getElem (by omega)]; simp
        exact hss _ this
      have hcx := ((unhide hbl).cell (p := ⟨b, off + k, none⟩) hb).trans (hc k hlt)
      rw [← hx] at hcx
      have hsn : Hid (numL d f ((txs ss).take (k + 1)) = numL d f ((txs ss).take k) ++ [numX (f + k) d (bs x)]) := by
        rw [getD_txs ss k (by omega), numL_snoc, ← hx]
        rw [List.length_take, Nat.min_eq_left (by simp; omega)]; exact rfl
      have hll : (numL d f ((txs ss).take k)).length = k := by rw [numL_len, List.length_take, Nat.min_eq_left (by simp; omega)]
      have D := hide (digits_any (f + k) wr (by omega) ((unhide HTab).below (unhide hbl)))
      have hdl := digits_len (f + k) (by omega)
      obtain ⟨q, hq⟩ : ∃ q, q = bt (Lib.decDigits (f + k)) := ⟨_, rfl⟩
      have hqs : q.size ≤ 21 := by rw [hq]; simpa [bt, ByteArray.size] using hdl
      have hqb : Hid (bs q = Lib.decDigits (f + k)) := by rw [hq]; simp [bt, bs, Hid]
      rw [← hq] at D
      have P := hide (fun W => padded_any q d W (by omega) hw)
      obtain ⟨z, hz⟩ : ∃ z, z = bt (pad d (bs q)) := ⟨_, rfl⟩
      have hzs : z.size ≤ 53 := by
        rw [hz]
        show (pad d (bs q)).toArray.size ≤ 53
        unfold pad
        rw [List.size_toArray, List.length_append, List.length_replicate, bs_len]; omega
      have hzx : Hid (z ++ { data := #[9] } ++ x = bt (numX (f + k) d (bs x))) := by
        show _ = _
        rw [hz, unhide hqb]
        apply ba_ext
        simp [bs, bt, numX]
      rw [← hz] at P
      clear hx hc hq hz hdl
      obtain ⟨F, hF⟩ : ∃ F, F = f + k := ⟨_, rfl⟩
      rw [← hF] at D ⊢
      have hF2 : F ≤ 3221225470 := by omega
      have HF := hide hF
      have HLL := hide hll
      clear hF hsl hll
      go_wp2_with fail
      refine (unhide D).mono ?_
      rintro e w2 ⟨rfl, hB2⟩
      clear D
      have hB2' : Below w'.heap.size w' w2 := (unhide hbl).trans (hB2.mono hsz)
      have hrow2 : Hid (RowS w'.heap.size u8 (numL d f ((txs ss).take k)) w2) := Ls.own_below (unhide hrow) hB2
      clear hrow hbl
      go_wp2_with fail
      refine (unhide P w2).mono ?_
      rintro e w3 ⟨rfl, hB3⟩
      clear P
      have hB3' : Below w'.heap.size w' w3 := hB2'.trans (hB3.mono hB2'.size)
      have hrow3 : Hid (RowS w'.heap.size u8 (numL d f ((txs ss).take k)) w3) := Ls.own_below (unhide hrow2) hB3
      have hsz3 := hB3'.size
      clear hrow2
      have hz1 : (z ++ { data := #[9] }).size = z.size + 1 := by rw [ByteArray.size_append]; rfl
      obtain ⟨y, hy⟩ : ∃ y, y = z ++ { data := #[9] } := ⟨_, rfl⟩
      rw [← hy] at hz1
      have hyx : Hid (y ++ x = bt (numX (f + k) d (bs x))) := by rw [hy]; exact hzx
      have HY := hide hy.symm
      clear hzx
      have hy' := unhide HY
      clear hy HY
      obtain ⟨t, htt⟩ : ∃ t, t = y ++ x := ⟨_, rfl⟩
      have htt' := htt.symm
      have HTT := hide htt
      clear htt
      have hlk : (numL d f ((txs ss).take k)).length ≤ 1073741823 := by rw [unhide HLL]; omega
      go_wp2_with (at_builtin; refine wpList_append_own _ rfl _ _ 28 rfl w'.heap.size 9 i1 _ 1 16 Tryd.underlying28 hi1 hy0 hy1 hy2 rfl (by decide) _ _ _ rfl ((unhide hrow3).alloc _) ⟨w3.heap.size, 0, none⟩ 1 1 [.string t] rfl rfl (byte_new _ _ _) (by simp [Value.oneCell']) (by unfold maxLen; omega) (by omega) (by simp; omega) ?_; intro v' w9 hown9 hg9 hnil9)
      have hn' : Hid (RowS w'.heap.size v' (numL d f ((txs ss).take (k + 1))) w9) := by
        rw [unhide hsn]
        show w9.ownsRow _ _ _ _ _ _
        rw [cellsS_snoc, List.length_append, ← unhide hyx, htt']
        exact hown9
      have hB9 : Hid (Below w'.heap.size w' w9) := hB3'.grown (grown_alloc hg9) hsz3 (fun i hi => ((unhide hrow3).lt i hi).1)
      clear hown9 hg9 hnil9
      have hF := unhide HF
      go_roundw
      case rel => exact ⟨k + 1, by omega, by go_num, by go_num, hn', hB9⟩
      case measure => simp [intOf]; omega
    · obtain rfl : k = n := by omega
      have hx : (txs ss).take k = txs ss := List.take_of_length_le (by simp; omega)
      rw [hx] at hrow
      go_wp2_with fail
      go_ret
      exact ⟨_, rfl, unhide hrow, unhide hbl⟩
end Go.Proofs.YtpfdjnnnemkoiabDoor.Cu
