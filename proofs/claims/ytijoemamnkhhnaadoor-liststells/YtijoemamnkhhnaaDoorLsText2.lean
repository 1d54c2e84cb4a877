/- What Text answers. -/
import Derived.Test.YtijoemamnkhhnaaDoorLsText
namespace Go.Proofs.YtijoemamnkhhnaaDoor.Ls
open Go.RowKit Go.Shelf

abbrev IsB (B b : Nat) (l : List UInt8) (w : World) : Prop := Lib.IsBuilder 45 5 B b (Lib.byteCells l) w
theorem bAt_below {T e : TypeId} {B b : Nat} {p : Value} {bs : List Value} {w w' : World} (h : Lib.BuilderAt T e B b p bs w) (hb : Below w.heap.size w w') : Lib.BuilderAt T e B b p bs w' := by
  have hl := h.lt
  obtain ⟨h1, v, h2, h3, h4⟩ := h
  exact ⟨h1, v, (hb.block b hl).trans h2, own_below h3 hb, h4⟩
theorem IsB.below {B b : Nat} {l : List UInt8} {w w' : World} (h : IsB B b l w) (hb : Below w.heap.size w w') : IsB B b l w' := by
  rcases h with h | h
  · exact .inl (bAt_below h hb)
  · exact .inr (bAt_below h hb)

/-- but for block b, only blocks of bytes may have turned -/
def Keeps (b : Nat) (w w' : World) : Prop := ∀ k, k < w.heap.size → k ≠ b → (∀ cs fz, w.heap[k]? ≠ some (.cells cs 5 fz)) → w'.heap[k]? = w.heap[k]?
theorem own_block {w : World} {base : Nat} {e : TypeId} {s : Nat} {v : Value} {n : Nat} {xs : List Value} (h : w.ownsRow base e s v n xs) : ∀ k, v.ownBlock = some k → k < w.heap.size ∧ ∃ cur, w.heap[k]? = some (.cells cur e (0, 0)) := by
  intro k hk
  rcases h.2 with ⟨rfl, _⟩ | ⟨g, cap, cur, rfl, _, hg, _⟩
  · simp [Value.ownBlock] at hk
  · simp [Value.ownBlock] at hk
    subst hk
    exact ⟨(Array.getElem?_eq_some_iff.1 hg).1, cur, hg⟩
theorem copyCheck_keep (B b : Nat) (bs : List Value) (w : World) (h : Lib.IsBuilder 45 5 B b bs w) :
    Calls Tryd.prog 30 #[.pointer (some ⟨b, 0, none⟩)] w fun e w' => e = .returned (.tuple #[]) ∧ Lib.BuilderAt 45 5 B b (.pointer (some ⟨b, 0, none⟩)) bs w' ∧ Below B w w' ∧ ∀ k, k ≠ b → w'.heap[k]? = w.heap[k]? := by
  rcases h with h | h
  · refine (Ln.copyCheck_fresh b w h.cell0 h.shape h.frozen0).mono ?_
    rintro e w' ⟨rfl, rfl⟩
    exact ⟨rfl, h.used _, (Below.refl B w).setCell (p := ⟨b, 0, none⟩) h.1 _, fun k hk => Below.heap_setCell _ _ _ k hk⟩
  · refine (Ln.copyCheck_used b w h.cell0).mono ?_
    rintro e w' ⟨rfl, rfl⟩
    exact ⟨rfl, h, Below.refl B _, fun _ _ => rfl⟩
set_option maxHeartbeats 2000000 in
set_option maxRecDepth 100000 in
theorem writeByte_keep (B b : Nat) (bs : List Value) (c : Int) (w : World) (h : Lib.IsBuilder 45 5 B b bs w) (hlen : bs.length + 1 ≤ 140737488355328) (hBw : B ≤ w.heap.size) :
    Calls Tryd.prog 20 #[.pointer (some ⟨b, 0, none⟩), .int .u8 c] w fun e w' => e = .returned .nilIface ∧ Lib.IsBuilder 45 5 B b (bs ++ [.int .u8 c]) w' ∧ Below B w w' ∧ Keeps b w w' := by
  obtain ⟨i0, hi, hz0, hz1, hz2⟩ := info_parts Tryd.sextra.infoByte
  go_enter Tryd.func20, Tryd.ntmps20
  go_wp2_with fail
  refine (copyCheck_keep B b bs _ h).mono ?_
  rintro e w1 ⟨rfl, h1, hb1, hk1⟩
  have hsz := hb1.size
  obtain ⟨v, c1, hown, hB, hlt, hrow, hnext⟩ := Ln.bld_parts h1
  have HN := hide hnext
  have HR := hide hrow
  have HK := hide hk1
  have HO := hide (own_block hown)
  clear hnext hrow h1 h hk1
  go_wp2_with (at_builtin; refine wpList_append_own _ rfl _ _ 43 rfl B 5 i0 (.int .u8 0) 1 1 Tryd.underlying43 hi hz0 hz1 hz2 rfl (by decide) _ _ _ rfl (hown.alloc _) ⟨w1.heap.size, 0, none⟩ 1 1 [.int .u8 c] rfl rfl (Ln.byte_new _ _ _) (Ln.byte_one _) (by unfold maxLen; omega) (by omega) (by simp; omega) ?_)
  intro v' w2 hown' hgrow _
  obtain ⟨d1, f1, hput⟩ := HN.out w2 (Ln.grown_two hgrow)
  have hfin := hput v' (bs ++ [.int .u8 c]) (by simpa using hown')
  have hbel : Below B w w2 := hb1.grown (Ln.grown_two hgrow) (by omega) HR.out
  have hkeep : Hid (∀ k, k < w.heap.size → k ≠ b → (∀ cs fz, w.heap[k]? ≠ some (.cells cs 5 fz)) → w2.heap[k]? = w.heap[k]?) := by
    intro k h1 h2 h3
    have h4 := unhide HK k h2
    rw [(Ln.grown_two hgrow).block k (by omega) (fun e => by
      obtain ⟨_, cur, hc⟩ := unhide HO k e.symm
      rw [h4] at hc
      exact h3 _ _ hc)]
    exact h4
  obtain ⟨g, cap, rfl⟩ := Ln.ownsRow_some hown'
  clear hput hgrow hown hown'
  go_wp2
  go_ret
  exact ⟨rfl, hfin, hbel.setCell (p := ⟨b, 1, none⟩) hB _, fun k h1 h2 h3 => (Below.heap_setCell _ _ _ k h2).trans (unhide hkeep k h1 h2 h3)⟩

def textV (rs : List R) : Value := .tuple #[.string ⟨(textL rs).toArray⟩, .int .i64 (textE rs)]
theorem textV_arg {rs : List R} (h : may rs = false) : Ending.returned (.tuple #[.string { data := #[] }, .int .i64 1]) = .returned (textV rs) := by
  simp [textV, textL, textE, h]
theorem textV_limit {rs : List R} (h : may rs = true) (h2 : 4096 < (tell rs).length) : Ending.returned (.tuple #[.string { data := #[] }, .int .i64 3]) = .returned (textV rs) := by
  have : ¬ (tell rs).length ≤ 4096 := by omega
  simp [textV, textL, textE, h, h2, this]
theorem textV_ok {rs : List R} (h : may rs = true) (h2 : (tell rs).length ≤ 4096) : Ending.returned (.tuple #[.string ⟨(tell rs).toArray⟩, .int .i64 0]) = .returned (textV rs) := by
  have : ¬ 4096 < (tell rs).length := by omega
  simp [textV, textL, textE, h, h2, this]
theorem tell1_len (r : R) : (tell1 r).length ≤ 4611686018427387904 → True := fun _ => trivial
theorem dec_len (n : Int) (h0 : -9223372036854775808 ≤ n) (h1 : n ≤ 9223372036854775807) : (dec n).length ≤ 21 := Lib.itoa_length_le n h0 h1
theorem tell1_le {r : R} (h : okR r = true) : (tell1 r).length ≤ 43 := by
  simp [okR, isPl] at h
  have h1 := dec_len r.1 (by omega) (by omega)
  unfold tell1
  split
  · omega
  · split
    · simp; omega
    · have h2 := dec_len r.2 (by omega) (by omega)
      simp; omega

set_option maxHeartbeats 2000000 in
set_option maxRecDepth 100000 in
theorem text_some (b off len cap : Nat) (rs : List R) (w : World) (h : ∀ i, i < len → w.cell? ⟨b, off + i * 2, none⟩ = some (.int .i64 (rs.getD i rz).1) ∧ w.cell? ⟨b, off + i * 2 + 1, none⟩ = some (.int .i64 (rs.getD i rz).2)) (hb : b < w.heap.size) (hl : rs.length = len) (hlen : len ≤ 4611686018427387904) (ht : Tab w) (hm : may rs = true)
    (M : Calls Tryd.prog 19 #[.slice (some ⟨b, off, none⟩) len cap] w fun e w' => e = .returned (.bool true) ∧ Below w.heap.size w w') :
    Calls Tryd.prog 10 #[.slice (some ⟨b, off, none⟩) len cap] w fun e w' => e = .returned (textV rs) ∧ Below w.heap.size w w' := by
  have HC := hide h
  have HL := hide hl
  have HT := hide ht
  have HM := hide hm
  have HA : Hid (∀ r ∈ rs, okR r = true) := by
    unfold may at hm
    simp only [Bool.and_eq_true] at hm
    exact fun r hr => List.all_eq_true.1 hm.1 r hr
  have M := hide M
  clear h hl ht hm
  go_enter Tryd.func10, Tryd.ntmps10
  go_wp2_with fail
  refine (unhide M).mono ?_
  rintro e w1 ⟨rfl, hb1⟩
  have HB1 := hide hb1
  have hz1 := hb1.size
  clear hb1 M
  go_wp2_with fail
  go_loopw [12] (fun i wr => ∃ k : Nat, k ≤ len ∧ i = .int .i64 k ∧ Hid ((tell (rs.take k)).length ≤ 4096) ∧ Hid (IsB w1.heap.size w1.heap.size (tell (rs.take k)) wr) ∧ Hid (Below w1.heap.size w1 wr)) (fun i _ => len - (intOf i).toNat)
  case atStart => exact ⟨0, Nat.zero_le _, rfl, by simp [tell, Hid], Lib.fresh_isBuilder 45 5 w1, (Below.refl _ _).alloc (Nat.le_refl _) _⟩
  case round =>
    obtain ⟨k, hk, rfl, hle, hI, hB⟩ := hrel
    have hsz := (unhide hB).size
    by_cases hlt : k < len
    · have hlt' : (k : Int) < (len : Int) := by omega
      have hkl : k < rs.length := by rw [unhide HL]; exact hlt
      have hBw : Hid (Below w.heap.size w wr) := (unhide HB1).trans ((unhide hB).mono hz1)
      have hc1 := ((unhide hBw).cell (p := ⟨b, off + k * 2, none⟩) hb).trans (unhide HC k hlt).1
      have hc2 := ((unhide hBw).cell (p := ⟨b, off + k * 2 + 1, none⟩) hb).trans (unhide HC k hlt).2
      have hd := hide (take_at rs k hkl)
      have hok : okR (rs.getD k rz) = true := unhide HA _ (by rw [List.getD, List.getElem?_eq_getElem hkl]; exact List.getElem_mem hkl)
      have htk : Hid ((rs.take k).length = k) := by show _ = _; simp; omega
      obtain ⟨r, hx⟩ : ∃ r, r = rs.getD k rz := ⟨_, rfl⟩
      rw [← hx] at hc1 hc2 hd hok
      clear hx hkl
      obtain ⟨x, y⟩ := r
      simp only at hc1 hc2
      have h43 := hide (tell1_le hok)
      simp only [okR, Bool.and_eq_true, Bool.or_eq_true, decide_eq_true_eq] at hok
      have hTR : Hid (∀ w', Tab w' → Calls Tryd.prog 22 #[.agg #[.int .i64 x, .int .i64 y]] w' fun e w'' => e = .returned (.string ⟨(tell1 (x, y)).toArray⟩) ∧ Below w'.heap.size w' w'') := fun w' hw => tellItem_any x y w' hok.1 (by rcases hok.2 with h | h; exact .inl h; exact .inr h.1) hw
      clear hok
      obtain ⟨t1, ht1⟩ : ∃ t1, t1 = tell1 (x, y) := ⟨_, rfl⟩
      rw [← ht1] at hTR h43
      have HT1 := hide ht1
      clear ht1
      by_cases hk0 : k = 0
      · have hnew : Hid (tell (rs.take (k + 1)) = tell (rs.take k) ++ t1) := by
          show _ = _
          rw [unhide hd, unhide HT1, hk0]; simp [tell]
        have hk0' : ¬ (0 : Int) < (k : Int) := by omega
        clear hk0
        go_wp2_with fail
        refine (unhide hTR _ (((unhide HT).below (unhide hBw)).below ((Below.refl _ _).alloc (Nat.le_refl _) _))).mono ?_
        rintro e w3 ⟨rfl, hb3⟩
        have hI3 := hide ((unhide hI).below (((Below.refl _ _).alloc (Nat.le_refl _) _).trans (hb3.mono (by simp))))
        have hB3 : Hid (Below w1.heap.size w1 w3) := ((unhide hB).alloc hsz _).trans (hb3.mono (by simp; omega))
        have hz3 := (unhide hB3).size
        have C3 := hide (Ln.writeString_any w1.heap.size w1.heap.size _ ⟨t1.toArray⟩ w3 (unhide hI3) (by rw [Lib.byteCells_length]; have h1 := unhide hle; have h2 := unhide h43; have h3 : (⟨t1.toArray⟩ : ByteArray).size = t1.length := rfl; simp at *; omega) hz3)
        clear hb3 hI3 hI
        go_wp2_with fail
        refine (unhide C3).mono ?_
        rintro e w4 ⟨rfl, hI4, hb4⟩
        have hB4 : Hid (Below w1.heap.size w1 w4) := (unhide hB3).trans hb4
        have hI5 : Hid (IsB w1.heap.size w1.heap.size (tell (rs.take (k + 1))) w4) := by
          show IsB _ _ _ _
          unfold IsB
          rw [unhide hnew, Lib.byteCells_append]
          exact hI4
        have C4 := hide (Tryd.Builder_Len w1.heap.size w1.heap.size _ w4 (unhide hI5))
        rw [Lib.byteCells_length] at C4
        obtain ⟨m, hm⟩ : ∃ m, m = (tell (rs.take (k + 1))).length := ⟨_, rfl⟩
        rw [← hm] at C4
        have HMm := hide hm
        clear hm hI4 hb4 C3
        by_cases h4 : 4096 < (m : Int)
        · have hlim := hide (textV_limit (rs := rs) (unhide HM) (by have h1 := tell_take_le rs (k + 1); have h2 := unhide HMm; omega))
          go_wp2_with fail
          refine (unhide C4).mono ?_
          rintro e w5 ⟨rfl, rfl⟩
          go_wp2_with fail
          go_ret2
          exact ⟨unhide hlim, (unhide HB1).trans ((unhide hB4).mono hz1)⟩
        · go_wp2_with fail
          refine (unhide C4).mono ?_
          rintro e w5 ⟨rfl, rfl⟩
          go_wp2_with fail
          go_roundw
          case rel => exact ⟨k + 1, by omega, by go_num, by have h2 := unhide HMm; show _ ≤ _; omega, hI5, hB4⟩
          case measure => simp [intOf]; omega
      · have hnew : Hid (tell (rs.take (k + 1)) = (tell (rs.take k) ++ [44]) ++ t1) := by
          show _ = _
          rw [unhide hd, unhide HT1, tell_snoc _ _ (by intro e; have := unhide htk; rw [e] at this; simp at this; omega)]; simp
        have hk0' : (0 : Int) < (k : Int) := by omega
        have C2 : Hid (∀ o, Calls Tryd.prog 20 #[.pointer (some ⟨w1.heap.size, 0, none⟩), .int .u8 44] (wr.alloc o) fun e w' => e = .returned .nilIface ∧ Lib.IsBuilder 45 5 w1.heap.size w1.heap.size (Lib.byteCells (tell (rs.take k)) ++ [.int .u8 44]) w' ∧ Below w1.heap.size (wr.alloc o) w' ∧ Keeps w1.heap.size (wr.alloc o) w') := fun o =>
          writeByte_keep w1.heap.size w1.heap.size _ 44 _ ((unhide hI).below ((Below.refl _ _).alloc (Nat.le_refl _) _)) (by rw [Lib.byteCells_length]; have h1 := unhide hle; omega) (by simp; omega)
        have hbl : w1.heap.size < wr.heap.size := by
          rcases unhide hI with h | h
          · exact h.lt
          · exact h.lt
        clear hk0
        go_wp2_with fail
        refine (unhide C2 _).mono ?_
        rintro e w2 ⟨rfl, hI2, hb2, hk2⟩
        have hblk : w2.heap[wr.heap.size]? = some (.cells #[.int .i64 x, .int .i64 y] 41 (0, 0)) := (hk2 wr.heap.size (by simp) (by omega) (by intro cs fz; rw [heap_alloc_new]; simp)).trans (heap_alloc_new _ _)
        have hc3 : w2.cell? ⟨wr.heap.size, 0, none⟩ = some (.int .i64 x) := by rw [cell_of_row _ _ _ _ _ _ hblk]; rfl
        have hc4 : w2.cell? ⟨wr.heap.size, 1, none⟩ = some (.int .i64 y) := by rw [cell_of_row _ _ _ _ _ _ hblk]; rfl
        have hB2 : Hid (Below w1.heap.size w1 w2) := ((unhide hB).alloc hsz _).trans hb2
        have hT2 : Hid (Tab w2) := (unhide HT).below ((unhide HB1).trans ((unhide hB2).mono hz1))
        have hTR2 : Hid (Calls Tryd.prog 22 #[.agg #[.int .i64 x, .int .i64 y]] w2 fun e w'' => e = .returned (.string ⟨t1.toArray⟩) ∧ Below w2.heap.size w2 w'') := unhide hTR _ (unhide hT2)
        clear hblk hk2 hb2 C2 hTR
        go_wp2_with fail
        refine (unhide hTR2).mono ?_
        rintro e w3 ⟨rfl, hb3⟩
        have hI3 := hide ((show IsB w1.heap.size w1.heap.size (tell (rs.take k) ++ [44]) w2 by unfold IsB; rw [Lib.byteCells_append]; exact hI2).below hb3)
        have hB3 : Hid (Below w1.heap.size w1 w3) := (unhide hB2).trans (hb3.mono (by have := (unhide hB2).size; omega))
        have hz3 := (unhide hB3).size
        have C3 := hide (Ln.writeString_any w1.heap.size w1.heap.size _ ⟨t1.toArray⟩ w3 (unhide hI3) (by rw [Lib.byteCells_length]; have h1 := unhide hle; have h2 := unhide h43; have h3 : (⟨t1.toArray⟩ : ByteArray).size = t1.length := rfl; simp at *; omega) hz3)
        clear hb3 hI3 hI
        go_wp2_with fail
        refine (unhide C3).mono ?_
        rintro e w4 ⟨rfl, hI4, hb4⟩
        have hB4 : Hid (Below w1.heap.size w1 w4) := (unhide hB3).trans hb4
        have hI5 : Hid (IsB w1.heap.size w1.heap.size (tell (rs.take (k + 1))) w4) := by
          show IsB _ _ _ _
          unfold IsB
          rw [unhide hnew, Lib.byteCells_append]
          exact hI4
        have C4 := hide (Tryd.Builder_Len w1.heap.size w1.heap.size _ w4 (unhide hI5))
        rw [Lib.byteCells_length] at C4
        obtain ⟨m, hm⟩ : ∃ m, m = (tell (rs.take (k + 1))).length := ⟨_, rfl⟩
        rw [← hm] at C4
        have HMm := hide hm
        clear hm hI4 hb4 C3
        by_cases h4 : 4096 < (m : Int)
        · have hlim := hide (textV_limit (rs := rs) (unhide HM) (by have h1 := tell_take_le rs (k + 1); have h2 := unhide HMm; omega))
          go_wp2_with fail
          refine (unhide C4).mono ?_
          rintro e w5 ⟨rfl, rfl⟩
          go_wp2_with fail
          go_ret2
          exact ⟨unhide hlim, (unhide HB1).trans ((unhide hB4).mono hz1)⟩
        · go_wp2_with fail
          refine (unhide C4).mono ?_
          rintro e w5 ⟨rfl, rfl⟩
          go_wp2_with fail
          go_roundw
          case rel => exact ⟨k + 1, by omega, by go_num, by have h2 := unhide HMm; show _ ≤ _; omega, hI5, hB4⟩
          case measure => simp [intOf]; omega
    · have e : rs.take k = rs := List.take_of_length_le (by rw [unhide HL]; omega)
      rw [e] at hI hle
      have C := hide (Ln.string_any w1.heap.size w1.heap.size _ wr (unhide hI) hsz)
      have hok := hide (textV_ok (rs := rs) (unhide HM) (unhide hle))
      clear hI e hle
      go_wp2_with fail
      refine (unhide C).mono ?_
      rintro e w2 ⟨rfl, hb2⟩
      have hB2 : Hid (Below w1.heap.size w1 w2) := (unhide hB).trans hb2
      clear C hb2
      go_wp2_with fail
      go_ret2
      exact ⟨unhide hok, (unhide HB1).trans ((unhide hB2).mono hz1)⟩
set_option maxHeartbeats 400000 in
theorem text_no (a : Option Addr) (len cap : Nat) (rs : List R) (w : World) (hm : may rs = false)
    (M : Calls Tryd.prog 19 #[.slice a len cap] w fun e w' => e = .returned (.bool false) ∧ Below w.heap.size w w') :
    Calls Tryd.prog 10 #[.slice a len cap] w fun e w' => e = .returned (textV rs) ∧ Below w.heap.size w w' := by
  have M := hide M
  have HM := hide (textV_arg hm)
  clear hm
  go_enter Tryd.func10, Tryd.ntmps10
  go_wp2_with fail
  refine (unhide M).mono ?_
  rintro e w1 ⟨rfl, hb1⟩
  go_wp2_with fail
  go_ret2
  exact ⟨unhide HM, hb1⟩
theorem text_any (a : Option Addr) (len cap c' : Nat) (rs : List R) (w : World) (h : Rg w a len c' rs) (hlen : len ≤ 4611686018427387904) (ht : Tab w) :
    Calls Tryd.prog 10 #[.slice a len cap] w fun e w' => e = .returned (textV rs) ∧ Below w.heap.size w w' := by
  have M := may_any a len cap c' rs w h hlen
  cases hm : may rs
  · rw [hm] at M
    exact text_no a len cap rs w hm M
  · rw [hm] at M
    rcases h.cells with h0 | ⟨b, off, rfl, hb, hc⟩
    · exfalso
      have : rs = [] := List.eq_nil_of_length_eq_zero (by rw [h.len]; exact h0)
      rw [this] at hm
      simp [may] at hm
    · exact text_some b off len cap rs w hc hb h.len hlen ht hm M
end Go.Proofs.YtijoemamnkhhnaaDoor.Ls
