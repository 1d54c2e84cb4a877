/- The law LinesFields's walk. -/
import Derived.Test.YtbamldjifempfabLnFieldsPlain
import Derived.Test.YtbamldjifempfabLnConv
namespace Go.Proofs.Ytbamldjifempfab.Ln
open Go.RowKit Go.Shelf Pa

theorem tot_at_snoc {ss : List ByteArray} {k : Nat} (h : k < ss.length) : tot (ss.take (k + 1)) = tot (ss.take k) + (ss.getD k ByteArray.empty).size := by
  induction ss generalizing k with
  | nil => simp at h
  | cons s l ih =>
    cases k with
    | zero => simp [tot]
    | succ k =>
      have := ih (k := k) (by simpa using h)
      simp only [List.take_succ_cons, tot, this, List.getD_cons_succ]
      omega
theorem tot_append' (a b : List ByteArray) : tot (a ++ b) = tot a + tot b := by
  induction a with
  | nil => simp [tot]
  | cons x l ih => simp only [List.cons_append, tot, ih]; omega
def blanksIn (s : ByteArray) (i : Nat) : Nat := ((s.data.toList.take i).filter isBlank).length
theorem blanks_snoc (s : ByteArray) (i : Nat) (h : i < s.size) : blanksIn s (i + 1) = blanksIn s i + if isBlank s[i] then 1 else 0 := by
  unfold blanksIn
  rw [List.take_succ_eq_append_getElem (show i < s.data.toList.length from h), List.filter_append, List.length_append]
  have e : s.data.toList[i]'(show i < s.data.toList.length from h) = s[i] := rfl
  rw [e]
  cases hh : isBlank s[i] <;> simp [hh]
theorem blanks_le (s : ByteArray) (i : Nat) : blanksIn s i ≤ i := by
  unfold blanksIn
  refine Nat.le_trans (List.length_filter_le _ _) ?_
  rw [List.length_take]
  omega

set_option maxRecDepth 100000 in
set_option maxHeartbeats 1000000 in
theorem linesFields_blank (s : ByteArray) (w : World) (hs : s.size ≤ 4611686018427387904) :
    Calls Try.prog 4 #[.string s, .int .u8 0] w fun e w' => e = .returned (.bool true) ∧ Below w.heap.size w w' := by
  go_enter Try.func4, Try.ntmps4
  go_wp2_with fail
  refine (alive_any w).mono ?_
  rintro e w1 ⟨rfl, hB1⟩
  by_cases hb : 100000 < (s.size : Int)
  · go_wp2_with fail
    refine (alive_any w1).mono ?_
    rintro e w2 ⟨rfl, hB2⟩
    go_wp2_with fail
    go_ret
    exact ⟨rfl, hB1.trans (hB2.mono hB1.size)⟩
  · have C1 := hide (fields_tx s 0 w1 (by omega) (by decide))
    have HA := hide (blanks_all s)
    have HF := hide (blank_field s)
    have hnl : (fieldsB 0 s).length ≤ s.size := by
      have h2 : fieldsB 0 s = (runsOf (parts isBlank s.data.toList)).map bt := rfl
      rw [h2, List.length_map]
      exact Nat.le_trans (runsOf_len _) (parts_len _ _)
    generalize fieldsB 0 s = ss at *
    obtain ⟨n, hn⟩ : ∃ n, n = ss.length := ⟨_, rfl⟩
    rw [← hn] at C1 hnl
    have HN := hide hn
    clear hn
    go_wp2_with fail
    refine (unhide C1).mono ?_
    rintro e w2 ⟨a, cap, rfl, hT, hb2⟩
    have hB2 : Below w.heap.size w w2 := hB1.trans (hb2.mono hB1.size)
    have HT := hide hT
    clear hT hb2 hB1 C1
    go_wp2_with fail
    have HTl : Hid (∀ k, tot (ss.take k) ≤ s.size) := fun k => by
      have h1 : tot (ss.take k) ≤ tot ss := by
        have := tot_append' (ss.take k) (ss.drop k)
        rw [List.take_append_drop] at this
        omega
      have := unhide HA
      omega
    go_loopw [6, 7, 8] (fun vn vi _ wr => ∃ k : Nat, k ≤ n ∧ vi = .int .i64 k ∧ vn = .int .i64 (tot (ss.take k)) ∧ wr = w2) (fun _ vi _ _ => n - (intOf vi).toNat)
    case atStart => exact ⟨0, Nat.zero_le _, rfl, rfl, rfl⟩
    case round =>
      obtain ⟨k, hk, rfl, rfl, rfl⟩ := hrel
      by_cases hlt : k < n
      · have hlt' : (k : Int) < (n : Int) := by omega
        have hks : k < ss.length := by rw [← unhide HN]; exact hlt
        obtain ⟨x, hx⟩ : ∃ x, x = ss.getD k ByteArray.empty := ⟨_, rfl⟩
        have hxm : x ∈ ss := by rw [hx, List.getD, List.getElem?_eq_getElem hks]; exact List.getElem_mem _
        obtain ⟨hx0, hx1⟩ := unhide HF x hxm
        have hts := tot_at_snoc hks
        have htl := unhide HTl (k + 1)
        rw [← hx] at hts
        have HX1 := hide hx1
        have hne : x.toList.isEmpty = false := by
          rw [ByteArray.toList_eq]
          cases h : x.data.toList with
          | nil => exact absurd (by have h2 : x.data.toList.length = x.size := rfl; rw [← h2, h]; rfl) hx0
          | cons c l => rfl
        rcases (unhide HT).cells with h0 | ⟨b, off, rfl, hbl, hc⟩
        · exfalso; omega
        · have hcx : wr.cell? ⟨b, off + k, none⟩ = some (.string x) := by rw [hx]; exact hc k hlt
          generalize tot (ss.take k) = T1 at *
          obtain ⟨T2, hT2⟩ : ∃ T2, T2 = tot (ss.take (k + 1)) := ⟨_, rfl⟩
          rw [← hT2] at hts htl
          have HT2 := hide hT2
          clear hx hxm hc hbl hx1 hT2
          go_wp2_with fail
          go_loopw [6, 8] (fun vn vj wr' => ∃ m : Nat, m ≤ x.size ∧ vj = .int .i64 m ∧ vn = .int .i64 ((T1 + m : Nat) : Int) ∧ wr' = wr) (fun _ vj _ => x.size - (intOf vj).toNat)
          case atStart => exact ⟨0, Nat.zero_le _, rfl, rfl, rfl⟩
          case round =>
            obtain ⟨m, hm, rfl, rfl, hww⟩ := hrel
            subst hww
            by_cases hml : m < x.size
            · have hml' : (m : Int) < (x.size : Int) := by omega
              have hq1 : ((x[m].toNat : Int) == 32) = false := by have := (unhide HX1 m hml).1; simp; omega
              have hq2 : ((x[m].toNat : Int) == 9) = false := by have := (unhide HX1 m hml).2; simp; omega
              go_wp2_with fail
              go_roundw
              case rel => exact ⟨m + 1, by omega, by go_num, by go_num, by simp⟩
              case measure => simp [intOf]; omega
            · have hml' : ¬ (m : Int) < (x.size : Int) := by omega
              have eT : T1 + m = T2 := by omega
              go_wp2_with fail
              go_roundw
              case rel => exact ⟨k + 1, by omega, by go_num, by rw [← unhide HT2, ← eT], by simp⟩
              case measure => simp [intOf]; omega
      · have hkn : k = n := by omega
        subst hkn
        have e : ss.take k = ss := List.take_of_length_le (by rw [← unhide HN]; omega)
        rw [e]
        have hA : tot ss + blanksIn s s.size = s.size := by
          have h2 : s.data.toList.take s.size = s.data.toList := List.take_of_length_le (Nat.le_refl _)
          unfold blanksIn
          rw [h2]
          exact unhide HA
        have HA2 := hide hA
        have htl := unhide HTl k
        rw [e] at htl
        clear e hA HTl HA
        generalize tot ss = T1 at *
        have HBL := hide (blanks_le s)
        have HBS := hide (blanks_snoc s)
        go_wp2_with fail
        go_loopw [6, 9] (fun vn vj wr' => ∃ m : Nat, m ≤ s.size ∧ vj = .int .i64 m ∧ vn = .int .i64 ((T1 + blanksIn s m : Nat) : Int) ∧ wr' = wr) (fun _ vj _ => s.size - (intOf vj).toNat)
        case atStart => exact ⟨0, Nat.zero_le _, rfl, by simp [blanksIn], rfl⟩
        case round =>
          obtain ⟨m, hm, rfl, rfl, hww⟩ := hrel
          subst hww
          by_cases hml : m < s.size
          · have hml' : (m : Int) < (s.size : Int) := by omega
            have hbl := unhide HBL m
            have hbs := unhide HBS m hml
            by_cases hq : s[m].toNat = 32
            · have hq1 : (s[m].toNat : Int) = 32 := by omega
              have e2 : isBlank s[m] = true := by simp [isBlank, hq]
              rw [e2] at hbs
              have eB : blanksIn s (m + 1) = blanksIn s m + 1 := hbs
              have HE := hide eB
              generalize blanksIn s m = B1 at *
              clear hq e2 hbs eB
              go_wp2_with fail
              go_roundw
              case rel => exact ⟨m + 1, by omega, by go_num, by rw [unhide HE]; go_num, by simp⟩
              case measure => simp [intOf]; omega
            · by_cases hq' : s[m].toNat = 9
              · have hq1 : (s[m].toNat : Int) = 9 := by omega
                have e2 : isBlank s[m] = true := by simp [isBlank, hq']
                rw [e2] at hbs
                have eB : blanksIn s (m + 1) = blanksIn s m + 1 := hbs
                have HE := hide eB
                generalize blanksIn s m = B1 at *
                clear hq hq' e2 hbs eB
                go_wp2_with fail
                go_roundw
                case rel => exact ⟨m + 1, by omega, by go_num, by rw [unhide HE]; go_num, by simp⟩
                case measure => simp [intOf]; omega
              · have hq1 : ((s[m].toNat : Int) == 32) = false := by simp; omega
                have hq2 : ((s[m].toNat : Int) == 9) = false := by simp; omega
                have e2 : isBlank s[m] = false := by simp [isBlank, hq, hq']
                rw [e2] at hbs
                have eB : blanksIn s (m + 1) = blanksIn s m := hbs
                have HE := hide eB
                generalize blanksIn s m = B1 at *
                clear hq hq' e2 hbs eB
                go_wp2_with fail
                go_roundw
                case rel => exact ⟨m + 1, by omega, by go_num, by rw [unhide HE], by simp⟩
                case measure => simp [intOf]; omega
          · obtain rfl : m = s.size := by omega
            rw [unhide HA2]
            go_wp2_with fail
            go_ret
            exact ⟨rfl, hB2⟩

set_option maxRecDepth 100000 in
set_option maxHeartbeats 1000000 in
theorem linesFields_sep (s : ByteArray) (sep : Nat) (w : World) (hs : s.size ≤ 4611686018427387904) (hsep : sep < 256) (h0 : sep ≠ 0) :
    Calls Try.prog 4 #[.string s, .int .u8 sep] w fun e w' => e = .returned (.bool true) ∧ Below w.heap.size w w' := by
  obtain ⟨i0, hi, hz0, hz1, hz2⟩ := info_parts Try.infoByte
  have hp1 : ((sep : Int) == 0) = false := by simp; omega
  have hp2 : ¬ (sep : Int) = 0 := by omega
  obtain ⟨c8, hc8⟩ : ∃ c8 : UInt8, c8.toNat = sep := ⟨UInt8.ofNat sep, by simp; omega⟩
  go_enter Try.func4, Try.ntmps4
  go_wp2_with fail
  refine (alive_any w).mono ?_
  rintro e w1 ⟨rfl, hB1⟩
  by_cases hb : 100000 < (s.size : Int)
  · go_wp2_with fail
    refine (alive_any w1).mono ?_
    rintro e w2 ⟨rfl, hB2⟩
    go_wp2_with fail
    go_ret
    exact ⟨rfl, hB1.trans (hB2.mono hB1.size)⟩
  · have C1 := hide (fields_tx s sep w1 (by omega) hsep)
    have HJ := hide (hc8 ▸ jn_all s c8 (by omega) : jn c8 (fieldsB sep s) = s.data.toList)
    have HJL : Hid (∀ k, (jn c8 ((fieldsB sep s).take k)).length ≤ s.size + 1) := fun k => by
      refine Nat.le_trans (jn_len c8 (fieldsB sep s) k) ?_
      have e : (fieldsB sep s).map (fun x => x.data.toList) = fieldsL c8.toNat s.data.toList := by
        rw [hc8]
        unfold fieldsB
        rw [List.map_map]
        conv => rhs; rw [← List.map_id (fieldsL sep s.data.toList)]
        refine List.map_congr_left fun x _ => ?_
        simp [bt]
      rw [e, ahead_fields c8 (by omega)]
      exact Nat.le_refl _
    have HF := hide (fun x => sep_field s x sep h0)
    have hnl : (fieldsB sep s).length ≤ s.size + 1 := by
      unfold fieldsB fieldsL
      rw [if_neg h0, List.length_map, List.length_append, List.length_map]
      have h1 := parts_len (isSep sep) s.data.toList
      have h2 : s.data.toList.length = s.size := rfl
      have h3 : (if lastT (parts (isSep sep) s.data.toList) = true then [([] : List UInt8)] else []).length ≤ 1 := by split <;> simp
      omega
    have hn0 : 0 < (fieldsB sep s).length := by
      unfold fieldsB
      rw [List.length_map]
      exact List.length_pos_iff.2 (fieldsL_ne sep h0 _)
    generalize fieldsB sep s = ss at *
    obtain ⟨n, hn⟩ : ∃ n, n = ss.length := ⟨_, rfl⟩
    rw [← hn] at C1 hnl hn0
    have HN := hide hn
    have HC8 := hide hc8
    clear hn hc8
    go_wp2_with fail
    refine (unhide C1).mono ?_
    rintro e w2 ⟨a, cap, rfl, hT, hb2⟩
    have hB2 : Below w.heap.size w w2 := hB1.trans (hb2.mono hB1.size)
    have HT := hide hT
    clear hT hb2 hB1 C1
    go_wp2_with fail
    go_loopw [10, 11, 12] (fun v vi _ wr => ∃ k : Nat, k ≤ n ∧ vi = .int .i64 k ∧ Hid (wr.ownsRow w2.heap.size 5 1 v (jn c8 (ss.take k)).length (Lib.byteCells (jn c8 (ss.take k)))) ∧ Hid (Below w2.heap.size w2 wr)) (fun _ vi _ _ => n - (intOf vi).toNat)
    case atStart => exact ⟨0, Nat.zero_le _, rfl, World.ownsRow_nil _ _ _ _, Below.refl _ _⟩
    case round =>
      obtain ⟨k, hk, rfl, hO, hB⟩ := hrel
      have hsz := (unhide hB).size
      by_cases hlt : k < n
      · have hlt' : (k : Int) < (n : Int) := by omega
        have hks : k < ss.length := by rw [← unhide HN]; exact hlt
        obtain ⟨x, hx⟩ : ∃ x, x = ss.getD k ByteArray.empty := ⟨_, rfl⟩
        have hxm : x ∈ ss := by rw [hx, List.getD, List.getElem?_eq_getElem hks]; exact List.getElem_mem _
        have HX1 := hide (unhide HF x hxm)
        have hjs := jn_snoc (sep := c8) hks
        rw [← hx] at hjs
        have hjl := unhide HJL (k + 1)
        rw [hjs, List.length_append, List.length_append] at hjl
        have hxl : x.data.toList.length = x.size := rfl
        rw [hxl] at hjl
        have HJS := hide hjs
        rcases (unhide HT).cells with hz | ⟨b, off, rfl, hbl, hc⟩
        · exfalso; omega
        · have hcw : Hid (∀ W : World, Below w2.heap.size w2 W → W.cell? ⟨b, off + k, none⟩ = some (.string x)) := fun W hW => by rw [hx]; exact (hW.cell hbl).trans (hc k hlt)
          clear hx hxm hc hbl hjs hxl
          by_cases hk0 : k = 0
          · have hk0' : (k : Int) = 0 := by omega
            have hjl2 : (jn c8 (ss.take k)).length + x.size ≤ s.size + 1 := by omega
            have hcx := unhide hcw wr (unhide hB)
            obtain ⟨c, o, hcv, hnews⟩ := cv_to x wr
            subst hk0
            rw [Nat.add_zero] at hcx
            go_wp2_with (at_builtin; refine wpList_append_own _ rfl _ _ 31 rfl w2.heap.size 5 i0 (.int .u8 0) 1 1 Try.underlying31 hi hz0 hz1 hz2 rfl (by decide) _ _ _ rfl ((unhide hO).alloc o) ⟨wr.heap.size, 0, none⟩ x.size c (Lib.strCells x) rfl (by rw [Lib.strCells_length]; omega) hnews (Lib.strCells_oneCell x) (by unfold maxLen; omega) (by omega) (by simp; omega) ?_)
            intro v4 w4 hO4 hg4 _
            have hB5 : Hid (Below w2.heap.size w2 w4) := ((unhide hB).alloc hsz o).drew.grown hg4 (by simp; omega) (fun j ej => ((unhide hO).lt j ej).1)
            have hO5 : Hid (w4.ownsRow w2.heap.size 5 1 v4 (jn c8 (ss.take (0 + 1))).length (Lib.byteCells (jn c8 (ss.take (0 + 1))))) := by
              show w4.ownsRow _ _ _ _ _ _
              rw [unhide HJS, Lib.byteCells_append, List.length_append]
              simpa [Lib.strCells_eq, Lib.byteCells] using hO4
            have hcx4 := unhide hcw w4 (unhide hB5)
            rw [Nat.add_zero] at hcx4
            clear hO hB hg4 hcv hnews hcx hO4
            obtain ⟨a4, n4, c4, rfl⟩ := row_slice (unhide hO5)
            go_wp2_with fail
            go_loopw [12] (fun vj wr' => ∃ m : Nat, m ≤ x.size ∧ vj = .int .i64 m ∧ wr' = w4) (fun vj _ => x.size - (intOf vj).toNat)
            case atStart => exact ⟨0, Nat.zero_le _, rfl, rfl⟩
            case round =>
              obtain ⟨m, hm, rfl, hww⟩ := hrel
              subst hww
              by_cases hml : m < x.size
              · have hml' : (m : Int) < (x.size : Int) := by omega
                have hq1 : ((x[m].toNat : Int) == (sep : Int)) = false := by have := unhide HX1 m hml; simp; omega
                go_wp2_with fail
                go_roundw
                case rel => exact ⟨m + 1, by omega, by go_num, by simp⟩
                case measure => simp [intOf]; omega
              · have hml' : ¬ (m : Int) < (x.size : Int) := by omega
                go_wp2_with fail
                go_roundw
                case rel => exact ⟨0 + 1, by omega, by go_num, hO5, hB5⟩
                case measure => simp [intOf]; omega
          · have hk0' : (0 : Int) < (k : Int) := by omega
            rw [if_neg hk0] at hjl
            simp only [List.length_cons, List.length_nil] at hjl
            have HJS2 : Hid (jn c8 (ss.take (k + 1)) = (jn c8 (ss.take k) ++ [c8]) ++ x.data.toList) := by
              show _ = _
              have := unhide HJS
              rwa [if_neg hk0] at this
            clear HJS
            go_wp2_with (at_builtin; refine wpList_append_own _ rfl _ _ 31 rfl w2.heap.size 5 i0 (.int .u8 0) 1 1 Try.underlying31 hi hz0 hz1 hz2 rfl (by decide) _ _ _ rfl ((unhide hO).alloc _) ⟨wr.heap.size, 0, none⟩ 1 1 [.int .u8 sep] rfl rfl (bt_new _ _ _) (bt_one _) (by unfold maxLen; omega) (by omega) (by simp; omega) ?_)
            intro v3 w3 hO3' hg3 _
            have hB3 : Hid (Below w2.heap.size w2 w3) := ((unhide hB).alloc hsz _).grown hg3 (by simp; omega) (fun j ej => ((unhide hO).lt j ej).1)
            have hsz3 := (unhide hB3).size
            have hO3 := hide hO3'
            have hcx := unhide hcw w3 (unhide hB3)
            clear hO hB hg3 hO3'
            obtain ⟨c, o, hcv, hnews⟩ := cv_to x w3
            obtain ⟨a3, n3, c3, rfl⟩ := row_slice (unhide hO3)
            go_wp2_with (at_builtin; refine wpList_append_own _ rfl _ _ 31 rfl w2.heap.size 5 i0 (.int .u8 0) 1 1 Try.underlying31 hi hz0 hz1 hz2 rfl (by decide) _ _ _ rfl ((unhide hO3).alloc o) ⟨w3.heap.size, 0, none⟩ x.size c (Lib.strCells x) rfl (by rw [Lib.strCells_length]; omega) hnews (Lib.strCells_oneCell x) (by unfold maxLen; omega) (by omega) (by simp; omega) ?_)
            intro v4 w4 hO4 hg4 _
            have hB5 : Hid (Below w2.heap.size w2 w4) := ((unhide hB3).alloc hsz3 o).drew.grown hg4 (by simp; omega) (fun j ej => ((unhide hO3).lt j ej).1)
            have hO5 : Hid (w4.ownsRow w2.heap.size 5 1 v4 (jn c8 (ss.take (k + 1))).length (Lib.byteCells (jn c8 (ss.take (k + 1))))) := by
              show w4.ownsRow _ _ _ _ _ _
              rw [unhide HJS2, Lib.byteCells_append, Lib.byteCells_append, List.length_append, List.length_append]
              have e1 : Lib.byteCells [c8] = [.int .u8 sep] := by simp [Lib.byteCells, unhide HC8]
              rw [e1, List.append_assoc, List.singleton_append]
              exact hO4
            have hcx4 := unhide hcw w4 (unhide hB5)
            clear hO3 hB3 hg4 hcv hnews hcx hO4
            obtain ⟨a4, n4, c4, rfl⟩ := row_slice (unhide hO5)
            go_wp2_with fail
            go_loopw [12] (fun vj wr' => ∃ m : Nat, m ≤ x.size ∧ vj = .int .i64 m ∧ wr' = w4) (fun vj _ => x.size - (intOf vj).toNat)
            case atStart => exact ⟨0, Nat.zero_le _, rfl, rfl⟩
            case round =>
              obtain ⟨m, hm, rfl, hww⟩ := hrel
              subst hww
              by_cases hml : m < x.size
              · have hml' : (m : Int) < (x.size : Int) := by omega
                have hq1 : ((x[m].toNat : Int) == (sep : Int)) = false := by have := unhide HX1 m hml; simp; omega
                go_wp2_with fail
                go_roundw
                case rel => exact ⟨m + 1, by omega, by go_num, by simp⟩
                case measure => simp [intOf]; omega
              · have hml' : ¬ (m : Int) < (x.size : Int) := by omega
                go_wp2_with fail
                go_roundw
                case rel => exact ⟨k + 1, by omega, by go_num, hO5, hB5⟩
                case measure => simp [intOf]; omega
      · have hkn : k = n := by omega
        subst hkn
        have e : ss.take k = ss := List.take_of_length_le (by rw [← unhide HN]; omega)
        rw [e, unhide HJ] at hO
        have hcv := cv_back _ (unhide hO)
        rw [show (⟨s.data.toList.toArray⟩ : ByteArray) = s by simp] at hcv
        have hBw : Below w.heap.size w wr := hB2.trans ((unhide hB).mono hB2.size)
        have hk0' : (0 : Int) < (k : Int) := by omega
        obtain ⟨a4, n4, c4, rfl⟩ := row_slice (unhide hO)
        clear e hO hB
        go_wp2_with fail
        go_ret
        exact ⟨rfl, hBw⟩

theorem linesFields_any (s : ByteArray) (c : Int) (w : World) (hs : s.size ≤ 4611686018427387904) (h0 : 0 ≤ c) (h1 : c ≤ 255) :
    Calls Try.prog 4 #[.string s, .int .u8 c] w fun e w' => e = .returned (.bool true) ∧ Below w.heap.size w w' := by
  obtain ⟨sep, rfl⟩ : ∃ sep : Nat, c = sep := ⟨c.toNat, by omega⟩
  by_cases h : sep = 0
  · subst h; exact linesFields_blank s w hs
  · exact linesFields_sep s sep w hs (by omega) h
end Go.Proofs.Ytbamldjifempfab.Ln
