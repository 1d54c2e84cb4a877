/- What swaps and Swap answer. -/
import Derived.Test.YtjgboecifonjdabSeSets
import Derived.BigRegion
import Derived.Laws.IdiomStrings
import Derived.Lib.BufferRead
namespace Go.Proofs.Ytjgboecifonjdab.Se
open Go.RowKit

def u8v (f : UInt8 → UInt8) : UInt8 → Value := fun c => .int .u8 ((f c).toNat : Int)
def zi : UInt8 → Value := fun _ => .int .u8 0
theorem Try.infoArrU : (Try.prog.info? 51).map (fun i => (i.zero, i.size)) = some (some (.agg (tab zi)), 256) := by kernel_rfl
/-- what a byte becomes by the places from i on -/
def bec (f t : Bs) (i : Nat) (c : UInt8) : UInt8 := if (f.drop i).elem c = true then t.getD (min (i + (f.drop i).idxOf c) (t.length - 1)) 0 else c
theorem bec_all (f t : Bs) (c : UInt8) : bec f t 0 c = becomes f t c := by simp [bec, becomes]
theorem bec_end (f t : Bs) (c : UInt8) : bec f t f.length c = c := by simp [bec]
theorem bec_step (f t : Bs) (i : Nat) (h : i < f.length) (c : UInt8) : bec f t i c = if c = f.getD i 0 then t.getD (min i (t.length - 1)) 0 else bec f t (i + 1) c := by
  have e : f.drop i = f.getD i 0 :: f.drop (i + 1) := by rw [List.drop_eq_getElem_cons h]; simp [List.getD, List.getElem?_eq_getElem h]
  unfold bec
  rw [e]
  by_cases hc : c = f.getD i 0
  · rw [if_pos hc, if_pos (by rw [hc]; simp)]
    rw [hc]; simp
  · rw [if_neg hc]
    by_cases hm : (f.drop (i + 1)).elem c = true
    · have hid : List.idxOf c (f.getD i 0 :: f.drop (i + 1)) = (f.drop (i + 1)).idxOf c + 1 := by
        have hb : (f.getD i 0 == c) = false := by simpa using fun h => hc h.symm
        rw [List.idxOf_cons, hb]; rfl
      rw [if_pos hm, if_pos (by simp at hm ⊢; exact .inr hm), hid]
      congr 2; omega
    · rw [if_neg hm, if_neg (by simp at hm ⊢; exact ⟨hc, hm⟩)]

set_option maxHeartbeats 2000000 in
set_option maxRecDepth 100000 in
theorem swaps_any (a1 a2 : Option Addr) (n c1 d1 m c2 d2 : Nat) (f t : Bs) (w : World) (h1 : By w a1 n d1 f) (h2 : By w a2 m d2 t) (hnm : 0 < n → 0 < m) (hn : n ≤ 4611686018427387904) (hm : m ≤ 4611686018427387904) :
    Calls Try.prog 19 #[.slice a1 n c1, .slice a2 m c2] w fun e w' => e = .returned (.agg (tab (u8v (becomes f t)))) ∧ Below w.heap.size w w' := by
  have H1 := hide h1
  have H2 := hide h2
  obtain ⟨hzero, hinf⟩ := zero_of_info Try.infoArrU
  obtain ⟨z, hz⟩ : ∃ z, z = tab zi := ⟨_, rfl⟩
  rw [← hz] at hzero
  have HI := hide hinf
  have HZ := hide hz
  clear h1 h2 hz hinf
  go_enter Try.func19, Try.ntmps19
  go_wp2_with fail
  have hA0 : Hid (Arr ((w.alloc (.cells z 51)).alloc (.cells z 51)) (w.heap.size + 1) 51 zi) := by
    have := heap_alloc_new (w.alloc (.cells z 51)) (.cells z 51)
    rw [World.size_alloc] at this
    rw [unhide HZ] at this ⊢
    exact this
  have hR0 : Hid (Arr ((w.alloc (.cells z 51)).alloc (.cells z 51)) w.heap.size 51 zi) := by
    rw [unhide HZ]
    exact (Below.heap_alloc _ _ _ (by simp)).trans (heap_alloc_new w _)
  have hb0 : Hid (Below w.heap.size w ((w.alloc (.cells z 51)).alloc (.cells z 51))) := ((Below.refl _ _).alloc (Nat.le_refl _) _).alloc (by simp) _
  go_loopw [8] (fun i wr => ∃ k : Nat, k ≤ 256 ∧ i = .int .i64 k ∧ Hid (Arr wr (w.heap.size + 1) 51 (fun c => .int .u8 (if c.toNat < k then (c.toNat : Int) else 0))) ∧ Hid (Arr wr w.heap.size 51 zi) ∧ Hid (Below w.heap.size w wr)) (fun i _ => 256 - (intOf i).toNat)
  case atStart => exact ⟨0, Nat.zero_le _, rfl, (unhide hA0).eq (fun c => by simp [zi]), hR0, hb0⟩
  case round =>
    clear hA0 hR0 hb0 hzero
    obtain ⟨k, hk, rfl, hA, hR, hnx⟩ := hrel
    by_cases hlt : k < 256
    · have hlt' : (k : Int) < 256 := by omega
      have hk255 : (k : Int) ≤ 255 := by omega
      obtain ⟨c, hc⟩ : ∃ c, c = UInt8.ofNat k := ⟨_, rfl⟩
      have hck : c.toNat = k := by rw [hc]; simp; omega
      have hcell := (unhide hA).cell c
      have hfz := (unhide hA).frozen c.toNat
      have hA2 := hide (((unhide hA).set c (.int .u8 (k : Int))).eq (f' := fun d => .int .u8 (if d.toNat < k + 1 then (d.toNat : Int) else 0)) (fun d => by
        by_cases e : d = c
        · rw [if_pos e, e, hck, if_pos (by omega)]
        · have : d.toNat ≠ k := fun h => e (UInt8.toNat_inj.1 (by omega))
          rw [if_neg e]
          by_cases h : d.toNat < k
          · rw [if_pos h, if_pos (by omega)]
          · rw [if_neg h, if_neg (by omega)]))
      rw [hck] at hcell hfz hA2
      have hR2 : Hid (Arr (wr.setCell ⟨w.heap.size + 1, k, none⟩ (.int .u8 (k : Int))) w.heap.size 51 zi) := (unhide hR).other _ _ (by simp)
      have hb2 : Hid (Below w.heap.size w (wr.setCell ⟨w.heap.size + 1, k, none⟩ (.int .u8 (k : Int)))) := (unhide hnx).setCell (p := ⟨w.heap.size + 1, k, none⟩) (Nat.le_succ _) _
      clear hck hc
      go_wp2_with fail
      go_roundw
      case rel => exact ⟨k + 1, by omega, by go_num, hA2, hR2, hb2⟩
      case measure => simp [intOf]; omega
    · obtain rfl : k = 256 := by omega
      have hA0 : Hid (Arr wr (w.heap.size + 1) 51 (u8v (bec f t n))) := (unhide hA).eq (fun c => by
        rw [if_pos c.toNat_lt]; unfold u8v; rw [← (unhide H1).len, bec_end])
      clear hA
      go_wp2_with fail
      go_loopw [7] (fun i wq => ∃ (k : Nat) (x : Int), k ≤ n ∧ i = .int .i64 x ∧ x = (k : Int) - 1 ∧ Hid (Arr wq (w.heap.size + 1) 51 (u8v (bec f t k))) ∧ Hid (Arr wq w.heap.size 51 zi) ∧ Hid (Below w.heap.size w wq)) (fun i _ => (intOf i + 1).toNat)
      case atStart => exact ⟨n, _, Nat.le_refl _, rfl, by go_num, hA0, hR, hnx⟩
      case round =>
        clear hA0 hR hnx
        obtain ⟨k, x, hk, rfl, hx, hA, hR, hnx⟩ := hrel
        cases k with
        | zero =>
          obtain rfl : x = -1 := by omega
          have hld := hide (run_load_arr (unhide hA) Try.underlying51 (by rw [tab_size]; exact unhide HI))
          have hst := hide (run_store_arr (unhide hR) (c' := tab (u8v (bec f t 0))) (by rw [tab_size]; exact unhide HI) (by rw [tab_size, tab_size]) (tab_one _ (fun _ => rfl)))
          have hA9 := hide ((unhide hR).setRow (u8v (bec f t 0)))
          have hb9 : Hid (Below w.heap.size w (wr.setRow w.heap.size (tab (u8v (bec f t 0))))) := below_setRow (unhide hnx) (Nat.le_refl _) _
          generalize wr.setRow w.heap.size (tab (u8v (bec f t 0))) = w9 at *
          have hld9 := hide (run_loadVar_row _ _ _ _ _ _ _ (unhide hA9) Try.underlying51 rfl (by rw [tab_size]; exact unhide HI))
          obtain ⟨A, hAe⟩ : ∃ A, A = tab (u8v (bec f t 0)) := ⟨_, rfl⟩
          rw [← hAe] at hld hst hld9
          have HAE : Hid (A = tab (u8v (becomes f t))) := by rw [hAe, show bec f t 0 = becomes f t from funext (bec_all f t)]; exact rfl
          clear hA hR hA9 hAe hx
          go_wp2_with (first | (refine wpList_load_arr _ rfl _ 51 rfl _ rfl _ (by exact unhide hld) ?_) | (refine wpList_store_arr _ rfl _ _ 51 rfl _ rfl _ rfl _ (by exact unhide hst) ?_))
          refine bodyPost_ret (v := .agg A) ?_ rfl ⟨by rw [unhide HAE], unhide hb9⟩
          rw [results_cell rfl]
          simp [asAddr, Result.andThen, Act.put, unhide hld9]
        | succ j =>
          obtain rfl : x = (j : Int) := by omega
          have hjn : j < n := by omega
          have hjn' : (j : Int) < (n : Int) := by omega
          have hm0 : 0 < m := hnm (by omega)
          obtain ⟨b1, o1, rfl, hbl1, hcs1⟩ : ∃ b off, a1 = some ⟨b, off, none⟩ ∧ b < w.heap.size ∧ ∀ i, i < n → w.cell? ⟨b, off + i, none⟩ = some (.int .u8 ((f.getD i 0).toNat : Int)) := by
            rcases (unhide H1).cells with h | h
            · omega
            · exact h
          obtain ⟨b2, o2, rfl, hbl2, hcs2⟩ : ∃ b off, a2 = some ⟨b, off, none⟩ ∧ b < w.heap.size ∧ ∀ i, i < m → w.cell? ⟨b, off + i, none⟩ = some (.int .u8 ((t.getD i 0).toNat : Int)) := by
            rcases (unhide H2).cells with h | h
            · omega
            · exact h
          have hc := ((unhide hnx).cell (p := ⟨b1, o1 + j, none⟩) hbl1).trans (hcs1 j hjn)
          have hst := hide (bec_step f t j (by rw [(unhide H1).len]; exact hjn))
          obtain ⟨c, hcc⟩ : ∃ c, c = f.getD j 0 := ⟨_, rfl⟩
          rw [← hcc] at hc hst
          have hmin : min j (t.length - 1) < m := by rw [(unhide H2).len]; omega
          have hc2 := ((unhide hnx).cell (p := ⟨b2, o2 + min j (t.length - 1), none⟩) hbl2).trans (hcs2 _ hmin)
          obtain ⟨y, hy⟩ : ∃ y, y = t.getD (min j (t.length - 1)) 0 := ⟨_, rfl⟩
          rw [← hy] at hc2 hst
          rw [(unhide H2).len] at hc2
          have h256 : (c.toNat : Int) < 256 := by have := c.toNat_lt; omega
          have hcell := (unhide hA).cell c
          have hfz := (unhide hA).frozen c.toNat
          have hA2 := hide (((unhide hA).set c (.int .u8 (y.toNat : Int))).eq (f' := u8v (bec f t j)) (fun d => by
            unfold u8v; rw [unhide hst]
            by_cases e : d = c
            · rw [if_pos e, if_pos e]
            · rw [if_neg e, if_neg e]))
          have hR2 : Hid (Arr (wr.setCell ⟨w.heap.size + 1, c.toNat, none⟩ (.int .u8 (y.toNat : Int))) w.heap.size 51 zi) := (unhide hR).other _ _ (by simp)
          have hb2 : Hid (Below w.heap.size w (wr.setCell ⟨w.heap.size + 1, c.toNat, none⟩ (.int .u8 (y.toNat : Int)))) := (unhide hnx).setCell (p := ⟨w.heap.size + 1, c.toNat, none⟩) (Nat.le_succ _) _
          clear hcs1 hcs2 hcc hst hy hmin hx hA hR hnx
          have e2 : (min (j : Int) ((m : Int) - 1)).toNat = min j (m - 1) := by omega
          rw [← e2] at hc2
          have e3 : min (j : Int) ((m : Int) - 1) < (m : Int) := by omega
          have e4 : 0 ≤ min (j : Int) ((m : Int) - 1) := by omega
          clear e2
          go_wp2_with fail
          go_region
          have hb3 : Hid (Below w.heap.size w (wr.setCell ⟨w.heap.size + 1, c.toNat, none⟩ (.int .u8 (y.toNat : Int))).drew) := (unhide hb2).trans ⟨rfl, rfl, rfl, Nat.le_refl _, fun _ _ => rfl⟩
          clear hb2 hcell hfz hc hc2
          go_wp2_with fail
          go_roundw
          case rel => exact ⟨j, (j : Int) - 1, by omega, by go_num, rfl, hA2, hR2, hb3⟩
          case measure => simp [intOf]

theorem cv_back {W : World} {base : Nat} {v : Value} (l : Bs) (h : Row base v l W) : (convert 22 9 v).run Try.prog W = .ok (.string ⟨l.toArray⟩) W := by
  rcases h.2 with ⟨rfl, h0⟩ | ⟨g, cap, cur, rfl, _⟩
  · obtain rfl : l = [] := List.eq_nil_of_length_eq_zero h0
    exact Lib.run_convert_nil_bytes W 22 9 5 0 Try.underlying22 Try.underlying5 Try.underlying9
  · refine run_convert_bytes_back W 22 9 5 ⟨g, 0, none⟩ cap l Try.underlying22 Try.underlying5 Try.underlying9 ?_
    intro j hj
    exact h.cells (g := g) rfl j _ (by simp [Lib.byteCells, List.getElem?_eq_getElem hj])
/-- the first k bytes turned, the rest still 0 -/
def outC (g : UInt8 → UInt8) (s : Bs) (k : Nat) : List Value := Lib.byteCells ((s.take k).map g) ++ List.replicate (s.length - k) (.int .u8 0)
theorem outC_zero (g : UInt8 → UInt8) (s : Bs) : outC g s 0 = List.replicate s.length (.int .u8 0) := by simp [outC, Lib.byteCells]
theorem outC_all (g : UInt8 → UInt8) (s : Bs) (k : Nat) (h : s.length ≤ k) : outC g s k = Lib.byteCells (s.map g) := by
  unfold outC; rw [List.take_of_length_le h, show s.length - k = 0 from by omega]; simp
theorem outC_at (g : UInt8 → UInt8) (s : Bs) (k : Nat) (h : k < s.length) : (outC g s k)[k]? = some (.int .u8 0) := by
  have hl : (Lib.byteCells ((s.take k).map g)).length = k := by simp [Lib.byteCells]; omega
  unfold outC
  rw [List.getElem?_append_right (by omega), hl, Nat.sub_self, show s.length - k = (s.length - k - 1) + 1 from by omega, List.replicate_succ]
  rfl
theorem outC_step (g : UInt8 → UInt8) (s : Bs) (k : Nat) (c : UInt8) (t : Bs) (h : s.drop k = c :: t) : (outC g s k).set k (.int .u8 ((g c).toNat : Int)) = outC g s (k + 1) := by
  have hk : k < s.length := by
    have := congrArg List.length h
    rw [List.length_drop] at this; simp at this; omega
  have hc : s[k] = c := by rw [List.drop_eq_getElem_cons hk] at h; exact (List.cons.inj h).1
  have hl : (Lib.byteCells ((s.take k).map g)).length = k := by simp [Lib.byteCells]; omega
  unfold outC
  rw [List.take_succ_eq_append_getElem hk, hc, List.set_append_right _ _ (by omega), hl, Nat.sub_self, show s.length - k = (s.length - (k + 1)) + 1 from by omega, List.replicate_succ]
  simp [Lib.byteCells]

set_option maxHeartbeats 2000000 in
set_option maxRecDepth 100000 in
theorem swap_any (s : ByteArray) (a1 a2 : Option Addr) (n c1 d1 m c2 d2 : Nat) (f t : Bs) (w : World) (h1 : By w a1 n d1 f) (h2 : By w a2 m d2 t) (hnm : 0 < n → 0 < m) (hn : n ≤ 4611686018427387904) (hm : m ≤ 4611686018427387904) (hs : s.size ≤ 70368744177664) :
    Calls Try.prog 13 #[.string s, .slice a1 n c1, .slice a2 m c2] w fun e w' => e = .returned (.tuple #[.string ⟨((bs s).map (becomes f t)).toArray⟩, .int .i64 0]) ∧ Below w.heap.size w w' := by
  have C := hide (swaps_any a1 a2 n c1 d1 m c2 d2 f t w h1 h2 hnm hn hm)
  obtain ⟨hzero, hinf⟩ := zero_of_info Try.infoArrU
  obtain ⟨i0, hi, hz0, hz1, hz2⟩ := info_parts Try.infoByte
  obtain ⟨z, hz⟩ : ∃ z, z = tab zi := ⟨_, rfl⟩
  rw [← hz] at hzero
  have HZ := hide hz
  obtain ⟨G, hG⟩ : ∃ G, G = becomes f t := ⟨_, rfl⟩
  rw [← hG] at C ⊢
  clear h1 h2 hz hG
  have start : (((m : Int) == 0) = false) ∨ (((m : Int) == 0) = true ∧ ¬ 0 < n) := by
    by_cases h : m = 0
    · exact .inr ⟨by simp [h], fun h' => by have := hnm h'; omega⟩
    · exact .inl (by simp; omega)
  clear hnm
  rcases start with t1 | ⟨t1, t2⟩
  all_goals
    go_enter Try.func13, Try.ntmps13
    go_wp2_with fail
    refine (unhide C).mono ?_
    rintro e w1 ⟨rfl, hb1⟩
    have hs1 := hb1.size
    have hst := hide (run_storeAt_new (P := Try.prog) w1 51 z (tab (u8v G)) (by rw [tab_size]; exact hinf) (by rw [unhide HZ, tab_size, tab_size]) (tab_one _ (fun _ => rfl)))
    obtain ⟨w2, hw2⟩ : ∃ W, W = w1.alloc (.cells (tab (u8v G)) 51) := ⟨_, rfl⟩
    have hA1 : Hid (Arr w2 w1.heap.size 51 (u8v G)) := by rw [hw2]; exact heap_alloc_new w1 _
    have hb2 : Hid (Below w.heap.size w w2) := by rw [hw2]; exact hb1.alloc hs1 _
    have hsz2 : w2.heap.size = w1.heap.size + 1 := by rw [hw2]; simp
    have HSZ2 := hide hsz2
    rw [← hw2] at hst
    obtain ⟨A, hA⟩ : ∃ A, A = tab (u8v G) := ⟨_, rfl⟩
    rw [← hA] at hst ⊢
    clear hA hb1 hinf C hw2 hsz2 HZ
    have hse : Hid (s.size ≤ maxLen) := by unfold maxLen; show s.size ≤ _; omega
    go_wp2_with (first | (refine wpList_store_arr _ rfl _ _ 51 rfl _ rfl _ rfl _ (by exact unhide hst) ?_) | (at_make; refine wpList_make_full _ rfl _ _ 22 rfl w2.heap.size 5 i0 _ 1 Try.underlying22 hi hz0 hz1 _ _ _ _ s.size rfl rfl rfl rfl (by rw [hz2]; omega) (unhide hse) (Nat.le_refl _) ?_; intro w3 hown3 hgrow3))
    have hb3 : Hid (Below w.heap.size w w3) := (unhide hb2).grown hgrow3 (unhide hb2).size (by simp)
    have hA3 : Hid (Arr w3 w1.heap.size 51 (u8v G)) := (hgrow3.block _ (unhide hA1).lt (by simp)).trans (unhide hA1)
    have hO3 : Hid (w3.ownsRow w2.heap.size 5 1 (.slice (some ⟨w2.heap.size, 0, none⟩) s.size s.size) s.size (outC G (bs s) 0)) := by
      rw [outC_zero, bs_len]
      have := hown3
      rw [Nat.mul_one, show (Value.int .u8 0).cells = #[.int .u8 0] from rfl, toList_madeCells_one] at this
      exact this
    clear hown3 hgrow3 hst hzero hb2 hA1
    go_wp2_with fail
    go_loopw [27] (fun i wr => ∃ k : Nat, k ≤ s.size ∧ i = .int .i64 k ∧ Hid (wr.ownsRow w2.heap.size 5 1 (.slice (some ⟨w2.heap.size, 0, none⟩) s.size s.size) s.size (outC G (bs s) k)) ∧ Hid (Arr wr w1.heap.size 51 (u8v G)) ∧ Hid (Below w.heap.size w wr)) (fun i _ => s.size - (intOf i).toNat)
    case atStart => exact ⟨0, Nat.zero_le _, rfl, hO3, hA3, hb3⟩
    case round =>
      clear hO3 hA3 hb3
      obtain ⟨k, hk, rfl, hO, hA, hnx⟩ := hrel
      by_cases hlt : k < s.size
      · have hlt' : (k : Int) < (s.size : Int) := by omega
        have h256 : (s[k].toNat : Int) < 256 := by have := s[k].toNat_lt; omega
        have hcell := (unhide hA).cell s[k]
        unfold u8v at hcell
        have hoc := ((unhide hO).cellAt k (by omega)).trans (outC_at G (bs s) k hlt)
        have hof := (unhide hO).frozenAt k
        have hst := (unhide hO).stored k (.int .u8 ((G s[k]).toNat : Int))
        rw [outC_step G (bs s) k s[k] _ (bs_at s k hlt)] at hst
        have hO2 := hide hst.1
        have hA2 : Hid (Arr (wr.setCell ⟨w2.heap.size, k, none⟩ (.int .u8 ((G s[k]).toNat : Int))) w1.heap.size 51 (u8v G)) := (unhide hA).other _ _ (by have := unhide HSZ2; simp; omega)
        have hb2 : Hid (Below w.heap.size w (wr.setCell ⟨w2.heap.size, k, none⟩ (.int .u8 ((G s[k]).toNat : Int)))) := (unhide hnx).setCell (p := ⟨w2.heap.size, k, none⟩) (by have := unhide HSZ2; simp; omega) _
        obtain ⟨y, hy⟩ : ∃ y, y = G s[k] := ⟨_, rfl⟩
        rw [← hy] at hcell hO2 hA2 hb2
        clear hst hO hA hnx hy
        go_wp2_with fail
        go_roundw
        case rel => exact ⟨k + 1, by omega, by go_num, hO2, hA2, hb2⟩
        case measure => simp [intOf]; omega
      · have hkn := hide (outC_all G (bs s) k (by rw [bs_len]; omega))
        rw [unhide hkn] at hO
        have hcv : (convert 22 9 (.slice (some ⟨w2.heap.size, 0, none⟩) s.size s.size)).run Try.prog wr = .ok (.string ⟨((bs s).map G).toArray⟩) wr := cv_back (base := w2.heap.size) ((bs s).map G) (by
          have := unhide hO
          unfold Row
          rw [List.length_map, bs_len]; exact this)
        obtain ⟨R, hR⟩ : ∃ R : ByteArray, R = ⟨((bs s).map G).toArray⟩ := ⟨_, rfl⟩
        rw [← hR] at hcv
        have HR := hide hR
        clear hkn hO hR
        go_wp2_with fail
        go_ret2
        exact ⟨by rw [← unhide HR]; rfl, unhide hnx⟩

theorem swap_none (s : ByteArray) (a1 a2 : Option Addr) (n c1 c2 : Nat) (w : World) (hn : 0 < n) :
    Calls Try.prog 13 #[.string s, .slice a1 n c1, .slice a2 0 c2] w fun e w' => e = .returned (.tuple #[.string { data := #[] }, .int .i64 1]) ∧ w' = w := by
  have t1 : (0 : Int) < (n : Int) := by omega
  go_enter Try.func13, Try.ntmps13
  go_wp2_with fail
  go_ret2
  exact ⟨rfl, rfl⟩
end Go.Proofs.Ytjgboecifonjdab.Se
