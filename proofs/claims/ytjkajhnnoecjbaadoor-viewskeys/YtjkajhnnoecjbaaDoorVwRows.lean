/- Lines by their fields: what rows answers. -/
import Derived.Test.YtjkajhnnoecjbaaDoorVwCut
import Derived.Test.YtjkajhnnoecjbaaDoorVwJoinP
import Derived.Test.YtjkajhnnoecjbaaDoorLnFields
set_option linter.unusedVariables false
namespace Go.Proofs.YtjkajhnnoecjbaaDoor.Vw
open Go.RowKit Go.Shelf Cu
open Pa (Tx tot)

theorem Tryd.infoRow : (Tryd.prog.info? 76).map (fun i => (i.zero, i.size, i.bytes)) = some (some (.agg #[.string ByteArray.empty, .string ByteArray.empty]), 2, 32) := by kernel_rfl
/-- the cells of rows -/
def rwc (rs : List Rw) : List Value := rs.flatMap fun r => [.string (bt r.1), .string (bt r.2)]
theorem rwc_length (rs : List Rw) : (rwc rs).length = rs.length * 2 := by
  induction rs with
  | nil => rfl
  | cons r l ih => simp [rwc] at ih ⊢; omega
theorem rwc_snoc (rs : List Rw) (r : Rw) : rwc (rs ++ [r]) = rwc rs ++ [.string (bt r.1), .string (bt r.2)] := by simp [rwc]
theorem rwc_get (rs : List Rw) (i : Nat) (h : i < rs.length) : (rwc rs)[i * 2]? = some (.string (bt rs[i].1)) ∧ (rwc rs)[i * 2 + 1]? = some (.string (bt rs[i].2)) := by
  induction rs generalizing i with
  | nil => simp at h
  | cons r l ih =>
    cases i with
    | zero => simp [rwc]
    | succ i =>
      have := ih i (by simpa using h)
      have e1 : (i + 1) * 2 = i * 2 + 1 + 1 := by omega
      have e : rwc (r :: l) = .string (bt r.1) :: .string (bt r.2) :: rwc l := by simp [rwc]
      rw [e, e1]
      simpa using this
abbrev RowR (B : Nat) (v : Value) (rs : List Rw) (w : World) : Prop := w.ownsRow B 76 2 v rs.length (rwc rs)
theorem pair_new (w : World) (x y : Value) (e : TypeId) : ∀ j u, [x, y][j]? = some u → (w.alloc (.cells #[x, y] e)).cell? ((⟨w.heap.size, 0, none⟩ : Addr).add j) = some u := by
  intro j u hj
  match j, hj with
  | 0, hj => simp at hj; subst hj; simp [Addr.add]
  | 1, hj => simp at hj; subst hj; simp [Addr.add]
theorem pair_one (a b : ByteArray) : ∀ u ∈ [Value.string a, Value.string b], u.oneCell' = true := by
  intro u hu; simp at hu; rcases hu with rfl | rfl <;> rfl
theorem bs_map (l : List Bs) : txs (l.map bt) = l := by
  induction l with
  | nil => rfl
  | cons x l ih => show bs (bt x) :: txs (l.map bt) = x :: l; rw [ih]
theorem tot_map (l : List Bs) : tot (l.map bt) = totL l := by rw [← totL_txs, bs_map]
/-- rows of lines -/
def rowsP (n : Nat) (sep c : UInt8) (ls : List Bs) : List Rw := ls.map fun l => rowP n c (Ln.fieldsL sep.toNat l)

theorem parts_tot (p : UInt8 → Bool) : ∀ l : Bs, totL ((Ln.parts p l).map (·.1)) ≤ l.length
  | [] => by simp [Ln.parts, totL]
  | c :: l => by
    have ih := parts_tot p l
    rw [Ln.parts]
    split
    · show 0 + totL ((Ln.parts p l).map (·.1)) ≤ _
      rw [List.length_cons]; omega
    · split
      · next h => simp [totL]
      · next x b r h =>
        rw [h] at ih
        simp only [List.map_cons, totL, List.length_cons] at ih ⊢
        omega
theorem totL_filter (q : Bs → Bool) : ∀ l : List Bs, totL (l.filter q) ≤ totL l
  | [] => by simp
  | x :: l => by
    have ih := totL_filter q l
    by_cases h : q x = true
    · rw [List.filter_cons_of_pos h, totL, totL]; omega
    · rw [List.filter_cons_of_neg h, totL]; omega
theorem fields_len (sep : Nat) (l : Bs) : (Ln.fieldsL sep l).length ≤ l.length + 1 ∧ totL (Ln.fieldsL sep l) ≤ l.length := by
  unfold Ln.fieldsL
  split
  · have h1 := Ln.parts_len Ln.isBlank l
    have h2 := parts_tot Ln.isBlank l
    unfold Ln.runsOf
    have h3 := totL_filter (fun x => !x.isEmpty) ((Ln.parts Ln.isBlank l).map (·.1))
    have h4 := List.length_filter_le (fun x => !x.isEmpty) ((Ln.parts Ln.isBlank l).map (·.1))
    rw [List.length_map] at h4
    exact ⟨Nat.le_trans h4 (by omega), Nat.le_trans h3 h2⟩
  · have h1 := Ln.parts_len (Ln.isSep sep) l
    have h2 := parts_tot (Ln.isSep sep) l
    split
    · rw [totL_snoc, List.length_append, List.length_map]
      simp; omega
    · rw [List.append_nil, List.length_map]
      omega
theorem totL_erase : ∀ (l : List Bs) (i : Nat), totL (l.eraseIdx i) ≤ totL l
  | [], i => by simp
  | x :: l, 0 => by simp [totL]
  | x :: l, i + 1 => by
    have := totL_erase l i
    simp only [List.eraseIdx_cons_succ, totL]
    omega
theorem row_cut {w : World} {B : Nat} {v : Value} {fs : List Bs} (h : RowT B v fs w) : ∃ a c, v = .slice a fs.length c := by
  rcases h.2 with ⟨hv, h0⟩ | ⟨g, cap, cur, hv, _⟩
  · exact ⟨none, 0, by rw [hv, h0]⟩
  · exact ⟨_, _, hv⟩
theorem row_some' {w : World} {B : Nat} {v : Value} {fs : List Bs} (h : RowT B v fs w) (h0 : 0 < fs.length) : ∃ g c, v = .slice (some ⟨g, 0, none⟩) fs.length c := by
  rcases h.2 with ⟨hv, h1⟩ | ⟨g, cap, cur, hv, _⟩
  · omega
  · exact ⟨_, _, hv⟩

set_option maxRecDepth 100000 in
set_option maxHeartbeats 1000000 in
theorem rows_any (a : Option Addr) (len cap c' : Nat) (ss : List ByteArray) (n : Nat) (sep c : UInt8) (w : World) (hT : Tx w a len c' ss) (hlen : len ≤ 1048577) (hss : ∀ s ∈ ss, s.size ≤ 1048577) (hn1 : 1 ≤ n) (hn2 : n ≤ 1000) :
    Calls Tryd.prog 66 #[.slice a len cap, .int .i64 n, .int .u8 (sep.toNat : Int), .string (bt [c])] w fun e w' => ∃ v, e = .returned v ∧ RowR w.heap.size v (rowsP n sep c (txs ss)) w' ∧ Below w.heap.size w w' := by
  obtain ⟨i0, hi, hz0, hz1, hz2⟩ := info_parts Tryd.infoRow
  have HT := hide hT
  have hsl : ss.length = len := hT.len
  have HS := hide hss
  clear hT hss
  go_enter Tryd.func66, Tryd.ntmps66
  go_wp2_with fail
  go_loopw [9, 16] (fun u v wr => ∃ k : Nat, v = .int .i64 k ∧ k ≤ len ∧ Hid (RowR w.heap.size u (rowsP n sep c ((txs ss).take k)) wr) ∧ Hid (Below w.heap.size w wr)) (fun _ v _ => len - (intOf v).toNat)
  case atStart => exact ⟨0, rfl, Nat.zero_le _, by rw [List.take_zero]; exact World.ownsRow_nil _ _ _ _, Below.refl _ _⟩
  case round =>
    obtain ⟨k, rfl, hk, hR, hB⟩ := hrel
    have hsz := (unhide hB).size
    by_cases hlt : k < len
    · have hlt' : (k : Int) < (len : Int) := by omega
      rcases (unhide HT).cells with h0 | ⟨b, off, rfl, hb, hc⟩
      · omega
      have hcx := ((unhide hB).cell (p := ⟨b, off + k, none⟩) hb).trans (hc k hlt)
      have hst : Hid (rowsP n sep c ((txs ss).take (k + 1)) = rowsP n sep c ((txs ss).take k) ++ [rowP n c (Ln.fieldsL sep.toNat (bs (ss.getD k ByteArray.empty)))]) := by
        show _ = _
        rw [txs_at ss k (by omega)]
        unfold rowsP
        rw [List.map_append]; rfl
      have hxs : (ss.getD k ByteArray.empty).size ≤ 1048577 := by
        rw [List.getD, List.getElem?_eq_getElem (show k < ss.length by omega)]
        exact unhide HS _ (List.getElem_mem _)
      have hrl : (rowsP n sep c ((txs ss).take k)).length = k := by unfold rowsP; rw [List.length_map, List.length_take, Nat.min_eq_left (by rw [List.length_map]; omega)]
      generalize ss.getD k ByteArray.empty = x at *
      generalize rowsP n sep c ((txs ss).take k) = R at *
      have HF := hide (Ln.fields_any x sep.toNat wr (by omega) sep.toNat_lt)
      obtain ⟨hf1, hf2⟩ := fields_len sep.toNat (bs x)
      rw [bs_len] at hf1 hf2
      clear hc
      go_wp2_with fail
      refine (unhide HF).mono ?_
      rintro e w1 ⟨v1, rfl, hO1, b1⟩
      have O1 : Hid (RowT wr.heap.size v1 (Ln.fieldsL sep.toNat (bs x)) w1) := hO1
      have B1 := hide b1
      generalize hfs : Ln.fieldsL sep.toNat (bs x) = fs at *
      clear hO1 b1 HF hfs
      have hs1 := (unhide B1).size
      obtain ⟨a1, c1, rfl⟩ := row_cut (unhide O1)
      -- the rest of the round, once the others and the key are known
      have rest : Hid (∀ (key : Bs) (fs' : List Bs) (v2 : Value) (w2 : World), rowP n c fs = (key, led [c] fs') → fs'.length ≤ fs.length → totL fs' ≤ totL fs → RowT wr.heap.size v2 fs' w2 → Below wr.heap.size wr w2 →
          Calls Tryd.prog 108 #[v2, .int .i64 0, .slice (some ⟨w2.heap.size, 0, none⟩) 1 1] (w2.alloc (.cells #[.string { data := #[] }] 9)) fun e w' => ∃ a cap, e = .returned (.slice a (fs'.length + 1) cap) ∧ Below wr.heap.size wr w' ∧
            Calls Tryd.prog 24 #[.string (bt [c]), .slice a (fs'.length + 1) cap] w' fun e w'' => e = .returned (.string (bt (rowP n c fs).2)) ∧ Below wr.heap.size wr w'') := fun key fs' v2 w2 hr hl ht hO hb' => by
        refine (insert_any v2 fs' w2 hO hb'.size (by omega)).mono ?_
        rintro e w3 ⟨a3, c3, rfl, hT3, b3⟩
        refine ⟨a3, c3, rfl, hb'.trans b3, ?_⟩
        have hb3 := hb'.trans b3
        refine (beside_any (bt [c]) a3 (fs'.length + 1) c3 c3 _ w3 hT3 (by omega) (by rw [tot_map]; show 0 + totL fs' ≤ _; omega) (by rw [bt_len]; simp)).mono ?_
        rintro e w4 ⟨rfl, b4⟩
        refine ⟨?_, hb3.trans (b4.mono hb3.size)⟩
        rw [bs_map, hr, bs_bt, beside_row]
      by_cases hnf : n ≤ fs.length
      · have hnf' : (n : Int) ≤ (fs.length : Int) := by omega
        obtain ⟨g1, c1', hg1⟩ := row_some' (unhide O1) (by omega)
        simp only [Value.slice.injEq] at hg1
        obtain ⟨rfl, _, rfl⟩ := hg1
        have hkc := ((unhide O1).cellAt (n - 1) (by omega)).trans (row_at fs (n - 1) (by omega))
        have hn' : (n : Int) - 1 = ((n - 1 : Nat) : Int) := by omega
        have HD := delete_any g1 c1 (n - 1) fs w1 (unhide O1) (by omega)
        rw [show n - 1 + 1 = n by omega] at HD
        have HD := hide HD
        have hkey : Hid ((rowP n c fs).1 = fs[n - 1]) := by
          show fs.getD (n - 1) [] = _
          simp [List.getD, List.getElem?_eq_getElem (show n - 1 < fs.length by omega)]
        have hrp : rowP n c fs = (fs[n - 1], led [c] (fs.eraseIdx (n - 1))) := by
          apply Prod.ext
          · exact unhide hkey
          · show led [c] (if n ≤ fs.length then _ else _) = _
            rw [if_pos hnf]
        go_wp2_with fail
        refine (unhide HD).mono ?_
        rintro e w2 ⟨rfl, hO2, b2, hel⟩
        have hte := totL_erase fs (n - 1)
        have R2 := unhide rest fs[n - 1] (fs.eraseIdx (n - 1)) (.slice (some ⟨g1, 0, none⟩) (fs.eraseIdx (n - 1)).length c1) w2 hrp (by omega) hte hO2 ((unhide B1).trans b2)
        rw [hel] at R2
        have R2 := hide R2
        clear HD rest hO2 b2 hrp O1 B1
        go_wp2_with fail
        refine (unhide R2).mono ?_
        rintro e w3 ⟨a3, c3, rfl, b3, H4⟩
        have B3 := hide b3
        have H4 := hide H4
        clear R2 b3
        go_wp2_with fail
        refine (unhide H4).mono ?_
        rintro e w4 ⟨rfl, b4⟩
        have B4 := hide b4
        have R4 := hide (own_below (unhide hR) b4)
        have BW := hide ((unhide hB).trans (b4.mono hsz))
        have hsz4 := (unhide BW).size
        clear H4 b4 B3 hB
        go_wp2_with (at_builtin; refine wpList_append_own _ rfl _ _ 68 rfl w.heap.size 76 i0 _ 2 32 Tryd.underlying68 hi hz0 hz1 hz2 rfl (by decide) _ _ _ rfl ((unhide R4).alloc _) ⟨w4.heap.size, 0, none⟩ 1 1 [.string (bt fs[n - 1]), .string (bt (rowP n c fs).2)] rfl rfl (pair_new _ _ _ _) (pair_one _ _) (by unfold maxLen; omega) (by omega) (by simp; omega) ?_)
        intro v5 w5 hO5 hg5 _
        have hg5' := grown_alloc hg5
        have B5 : Hid (Below w.heap.size w w5) := (unhide BW).grown hg5' (by omega) (fun j ej => ((unhide R4).lt j ej).1)
        have O5 : Hid (RowR w.heap.size v5 (rowsP n sep c ((txs ss).take (k + 1))) w5) := by
          show World.ownsRow _ _ _ _ _ _ _
          rw [unhide hst, List.length_append, rwc_snoc, hrl, unhide hkey]
          exact hO5
        obtain ⟨g5, c5, rfl⟩ : ∃ g5 c5, v5 = .slice (some ⟨g5, 0, none⟩) (k + 1) c5 := Ln.ownsRow_some hO5
        clear hO5 hg5 hg5' R4 BW hR
        go_wp2_with fail
        go_roundw
        case rel => exact ⟨k + 1, by go_num, by omega, O5, B5⟩
        case measure => simp [intOf]; omega
      · have hnf' : ¬ (n : Int) ≤ (fs.length : Int) := by omega
        have hkey : Hid ((rowP n c fs).1 = []) := by
          show fs.getD (n - 1) [] = _
          rw [List.getD, List.getElem?_eq_none (by omega)]; rfl
        have hrp : rowP n c fs = ([], led [c] fs) := by
          apply Prod.ext
          · exact unhide hkey
          · show led [c] (if n ≤ fs.length then _ else _) = _
            rw [if_neg hnf]
        have R2 := hide (unhide rest [] fs (.slice a1 fs.length c1) w1 hrp (Nat.le_refl _) (Nat.le_refl _) (unhide O1) (unhide B1))
        clear rest hrp O1 B1
        go_wp2_with fail
        refine (unhide R2).mono ?_
        rintro e w3 ⟨a3, c3, rfl, b3, H4⟩
        have B3 := hide b3
        have H4 := hide H4
        clear R2 b3
        go_wp2_with fail
        refine (unhide H4).mono ?_
        rintro e w4 ⟨rfl, b4⟩
        have B4 := hide b4
        have R4 := hide (own_below (unhide hR) b4)
        have BW := hide ((unhide hB).trans (b4.mono hsz))
        have hsz4 := (unhide BW).size
        clear H4 b4 B3 hB
        go_wp2_with (at_builtin; refine wpList_append_own _ rfl _ _ 68 rfl w.heap.size 76 i0 _ 2 32 Tryd.underlying68 hi hz0 hz1 hz2 rfl (by decide) _ _ _ rfl ((unhide R4).alloc _) ⟨w4.heap.size, 0, none⟩ 1 1 [.string { data := #[] }, .string (bt (rowP n c fs).2)] rfl rfl (pair_new _ _ _ _) (pair_one _ _) (by unfold maxLen; omega) (by omega) (by simp; omega) ?_)
        intro v5 w5 hO5 hg5 _
        have hg5' := grown_alloc hg5
        have B5 : Hid (Below w.heap.size w w5) := (unhide BW).grown hg5' (by omega) (fun j ej => ((unhide R4).lt j ej).1)
        have O5 : Hid (RowR w.heap.size v5 (rowsP n sep c ((txs ss).take (k + 1))) w5) := by
          show World.ownsRow _ _ _ _ _ _ _
          rw [unhide hst, List.length_append, rwc_snoc, hrl, unhide hkey]
          exact hO5
        obtain ⟨g5, c5, rfl⟩ : ∃ g5 c5, v5 = .slice (some ⟨g5, 0, none⟩) (k + 1) c5 := Ln.ownsRow_some hO5
        clear hO5 hg5 hg5' R4 BW hR
        go_wp2_with fail
        go_roundw
        case rel => exact ⟨k + 1, by go_num, by omega, O5, B5⟩
        case measure => simp [intOf]; omega
    · obtain rfl : k = len := by omega
      have e : (txs ss).take k = txs ss := List.take_of_length_le (by rw [List.length_map]; omega)
      have hfin : Hid (RowR w.heap.size u9 (rowsP n sep c (txs ss)) wr) := by
        have h1 := unhide hR
        rw [e] at h1
        exact h1
      clear hR e
      go_wp2_with fail
      go_ret
      exact ⟨_, rfl, unhide hfin, unhide hB⟩
end Go.Proofs.YtjkajhnnoecjbaaDoor.Vw
