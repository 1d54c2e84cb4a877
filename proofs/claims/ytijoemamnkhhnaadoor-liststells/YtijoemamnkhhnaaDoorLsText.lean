/- What isPlace, mayBeTold, tellItem and Text answer. -/
import Derived.Test.YtijoemamnkhhnaaDoorLsList
import Derived.Test.YtijoemamnkhhnaaDoorLnBuild
import Derived.Lib.ItoaLen
namespace Go.Proofs.YtijoemamnkhhnaaDoor.Ls
open Go.RowKit Go.Shelf

/-- the table that Itoa reads -/
abbrev Tab (w : World) : Prop := Lib.TabIs Tryd.prog w "internal/strconv.uint64pow10" .u64 Lib.pow10Tab
theorem Tryd.tabAt : (Tryd.prog.globalNamed "internal/strconv.uint64pow10").isSome = true := by kernel_rfl
theorem Tab.below {w w' : World} (h : Tab w) (hb : Below w.heap.size w w') : Tab w' := by
  obtain ⟨g, hg⟩ := Option.isSome_iff_exists.1 Tryd.tabAt
  unfold Tab Lib.TabIs World.var? at h ⊢
  rw [hg] at h ⊢
  simp only [Option.bind_some] at h ⊢
  have hlt : g < w.heap.size := by
    rcases Nat.lt_or_ge g w.heap.size with h' | h'
    · exact h'
    · rw [Array.getElem?_eq_none h'] at h; cases h
  rw [hb.block g hlt]
  exact h
theorem below_grow (w : World) (q : Nat) (os : Array Obj) : Below w.heap.size w (Sort.grow (w.drewN q) os) := by
  refine ⟨rfl, rfl, rfl, ?_, fun k hk => ?_⟩
  · show w.heap.size ≤ (w.heap ++ os).size
    simp
  · show (w.heap ++ os)[k]? = _
    exact Array.getElem?_append_left hk

theorem isPlace_any (n : Int) (w : World) : Calls Tryd.prog 29 #[.int .i64 n] w fun e w' => e = .returned (.bool (isPl n)) ∧ w' = w := by
  by_cases a : 1 ≤ n
  · by_cases b : n ≤ 2147483647
    · go_enter Tryd.func29, Tryd.ntmps29
      go_wp2
      go_ret
      exact ⟨by simp [isPl, a, b], rfl⟩
    · go_enter Tryd.func29, Tryd.ntmps29
      go_wp2
      go_ret
      exact ⟨by simp [isPl, b], rfl⟩
  · go_enter Tryd.func29, Tryd.ntmps29
    go_wp2
    go_ret
    exact ⟨by have : ¬ 1 ≤ n := by omega
              simp [isPl, this], rfl⟩

set_option maxHeartbeats 400000 in
theorem may_some (b off len cap : Nat) (rs : List R) (w : World) (h : ∀ i, i < len → w.cell? ⟨b, off + i * 2, none⟩ = some (.int .i64 (rs.getD i rz).1) ∧ w.cell? ⟨b, off + i * 2 + 1, none⟩ = some (.int .i64 (rs.getD i rz).2)) (hb : b < w.heap.size) (hl : rs.length = len) (hlen : len ≤ 4611686018427387904) :
    Calls Tryd.prog 19 #[.slice (some ⟨b, off, none⟩) len cap] w fun e w' => e = .returned (.bool (may rs)) ∧ Below w.heap.size w w' := by
  have HC := hide h
  have HL := hide hl
  clear h hl
  go_enter Tryd.func19, Tryd.ntmps19
  go_wp2
  go_loopw [7] (fun i wr => ∃ k : Nat, k ≤ len ∧ i = .int .i64 k ∧ Hid ((rs.take k).all okR = true) ∧ Below w.heap.size w wr) (fun i _ => len - (intOf i).toNat)
  case atStart => exact ⟨0, Nat.zero_le _, rfl, rfl, Below.refl _ _⟩
  case round =>
    obtain ⟨k, hk, rfl, hr, hnx⟩ := hrel
    have hsz := hnx.size
    by_cases hlt : k < len
    · have hc1 := (hnx.cell (p := ⟨b, off + k * 2, none⟩) hb).trans (unhide HC k hlt).1
      have hc2 := (hnx.cell (p := ⟨b, off + k * 2 + 1, none⟩) hb).trans (unhide HC k hlt).2
      have hd := hide (take_at rs k (by rw [unhide HL]; exact hlt))
      have hm : Hid (rs.getD k rz ∈ rs) := by
        have hkl : k < rs.length := by rw [unhide HL]; exact hlt
        rw [List.getD, List.getElem?_eq_getElem hkl]; exact List.getElem_mem hkl
      obtain ⟨r, hx⟩ : ∃ r, r = rs.getD k rz := ⟨_, rfl⟩
      rw [← hx] at hc1 hc2 hd hm
      clear hx
      obtain ⟨x, y⟩ := r
      simp only at hc1 hc2
      cases h0 : okR (x, y)
      · have hf : Hid (may rs = false) := by
          unfold may
          rw [List.all_eq_false.2 ⟨(x, y), unhide hm, by simp [h0]⟩]; exact rfl
        simp only [okR] at h0
        clear hd hm hr
        cases hp : isPl x
        · have P1 := hide (fun w => hp ▸ isPlace_any x w)
          clear h0 hp
          go_wp2_with fail
          refine (unhide P1 _).mono ?_
          rintro e w' ⟨rfl, rfl⟩
          go_wp2_with fail
          go_ret
          exact ⟨by rw [unhide hf]; rfl, by repeat (first | exact hnx | apply Below.setCell | apply Below.alloc | simpa using hsz)⟩
        · have P1 := hide (fun w => hp ▸ isPlace_any x w)
          rw [hp] at h0
          have hy0 : (y != 0) = true := by
            cases hy : decide (y = 0)
            · simp at hy; simp [hy]
            · rw [hy] at h0; simp at h0
          cases hq : isPl y
          · have P2 := hide (fun w => hq ▸ isPlace_any y w)
            clear h0 hp hq
            go_wp2_with fail
            refine (unhide P1 _).mono ?_
            rintro e w' ⟨rfl, rfl⟩
            go_wp2_with fail
            refine (unhide P2 _).mono ?_
            rintro e w' ⟨rfl, rfl⟩
            go_wp2_with fail
            go_ret
            exact ⟨by rw [unhide hf]; rfl, by repeat (first | exact hnx | apply Below.setCell | apply Below.alloc | simpa using hsz)⟩
          · have P2 := hide (fun w => hq ▸ isPlace_any y w)
            have hlt2 : y < x := by
              rw [hq] at h0
              simp at h0 hy0
              omega
            clear h0 hp hq
            go_wp2_with fail
            refine (unhide P1 _).mono ?_
            rintro e w' ⟨rfl, rfl⟩
            go_wp2_with fail
            refine (unhide P2 _).mono ?_
            rintro e w' ⟨rfl, rfl⟩
            go_wp2_with fail
            go_ret
            exact ⟨by rw [unhide hf]; rfl, by repeat (first | exact hnx | apply Below.setCell | apply Below.alloc | simpa using hsz)⟩
      · have hf : Hid ((rs.take (k + 1)).all okR = true) := by rw [unhide hd, List.all_append, unhide hr]; simp [h0, Hid]
        simp only [okR, Bool.and_eq_true, Bool.or_eq_true, decide_eq_true_eq] at h0
        obtain ⟨hp, h0⟩ := h0
        have P1 := hide (fun w => hp ▸ isPlace_any x w)
        clear hd hm hr hp
        rcases h0 with h0 | ⟨hq, h0⟩
        · have hy0 : (y != 0) = false := by simp [h0]
          clear h0
          go_wp2_with fail
          refine (unhide P1 _).mono ?_
          rintro e w' ⟨rfl, rfl⟩
          go_wp2_with fail
          go_roundw
          case rel => exact ⟨k + 1, by omega, by go_num, hf, by repeat (first | exact hnx | apply Below.setCell | apply Below.alloc | simpa using hsz)⟩
          case measure => simp [intOf]; omega
        · have P2 := hide (fun w => hq ▸ isPlace_any y w)
          have hy0 : (y != 0) = true := by simp [isPl] at hq; simp; omega
          clear hq
          go_wp2_with fail
          refine (unhide P1 _).mono ?_
          rintro e w' ⟨rfl, rfl⟩
          go_wp2_with fail
          refine (unhide P2 _).mono ?_
          rintro e w' ⟨rfl, rfl⟩
          go_wp2_with fail
          go_roundw
          case rel => exact ⟨k + 1, by omega, by go_num, hf, by repeat (first | exact hnx | apply Below.setCell | apply Below.alloc | simpa using hsz)⟩
          case measure => simp [intOf]; omega
    · have hf : Hid (may rs = decide (0 < len)) := by
        have h1 := unhide hr
        rw [List.take_of_length_le (by rw [unhide HL]; omega)] at h1
        unfold may
        rw [h1]
        have := unhide HL
        cases rs with
        | nil => simp at this; subst this; exact rfl
        | cons q l => simp at this; subst this; simp [Hid]
      clear hr
      by_cases hp : 0 < len
      · go_wp2
        go_ret
        exact ⟨by rw [unhide hf, decide_eq_true hp]; rfl, hnx⟩
      · go_wp2
        go_ret
        exact ⟨by rw [unhide hf, decide_eq_false hp]; rfl, hnx⟩

set_option maxHeartbeats 400000 in
theorem may_none (a : Option Addr) (cap : Nat) (w : World) :
    Calls Tryd.prog 19 #[.slice a 0 cap] w fun e w' => e = .returned (.bool false) ∧ w' = w := by
  go_enter Tryd.func19, Tryd.ntmps19
  go_wp2
  refine wp_loop_rounds 1 ?_
  rw [rounds_succ]
  go_wp2
  go_ret
  exact ⟨rfl, rfl⟩
theorem may_any (a : Option Addr) (len cap c' : Nat) (rs : List R) (w : World) (h : Rg w a len c' rs) (hlen : len ≤ 4611686018427387904) :
    Calls Tryd.prog 19 #[.slice a len cap] w fun e w' => e = .returned (.bool (may rs)) ∧ Below w.heap.size w w' := by
  rcases h.cells with rfl | ⟨b, off, rfl, hb, hc⟩
  · obtain rfl : rs = [] := List.eq_nil_of_length_eq_zero h.len
    exact (may_none a cap w).mono fun e w' ⟨h1, h2⟩ => ⟨h1, h2 ▸ Below.refl _ _⟩
  · exact may_some b off len cap rs w hc hb h.len hlen

theorem itoa_is (n : Int) (h0 : -9223372036854775808 ≤ n) (h1 : n ≤ 9223372036854775807) : ∃ d : ByteArray, d = ⟨(dec n).toArray⟩ ∧ d.size ≤ 21 ∧ Hid (∀ w, Tab w →
    Calls Tryd.prog 31 #[.int .i64 n] w fun e w' => e = .returned (.string d) ∧ Below w.heap.size w w') :=
  ⟨_, rfl, Lib.itoa_length_le n h0 h1, fun w ht => (Tryd.strconv_Itoa n h0 h1 w ht).mono fun _ _ ⟨h, k, os, hw⟩ => ⟨h, hw ▸ below_grow w k os⟩⟩
theorem cat_bs (a b : List UInt8) : (⟨a.toArray⟩ : ByteArray) ++ ⟨b.toArray⟩ = ⟨(a ++ b).toArray⟩ := by
  apply ByteArray.ext
  simp
theorem ret_str {a b : ByteArray} (h : a = b) : Ending.returned (.string a) = .returned (.string b) := by rw [h]

set_option maxHeartbeats 400000 in
set_option maxRecDepth 100000 in
theorem tellItem_any (x y : Int) (w : World) (hx : isPl x = true) (hy : y = 0 ∨ isPl y = true) (ht : Tab w) :
    Calls Tryd.prog 22 #[.agg #[.int .i64 x, .int .i64 y]] w fun e w' => e = .returned (.string ⟨(tell1 (x, y)).toArray⟩) ∧ Below w.heap.size w w' := by
  have hx' := hx
  simp [isPl] at hx'
  have hyb : 0 ≤ y ∧ y ≤ 2147483647 := by
    rcases hy with rfl | hy
    · omega
    · simp [isPl] at hy; omega
  have HT : Hid (∀ o, Tab (w.alloc o)) := fun o => ht.below ((Below.refl _ _).alloc (Nat.le_refl _) _)
  obtain ⟨dx, hdx, hsx, IX⟩ := itoa_is x (by omega) (by omega)
  obtain ⟨dy, hdy, hsy, IY⟩ := itoa_is y (by omega) (by omega)
  have HX := hide hdx
  have HY := hide hdy
  clear hx hy ht hdx hdy
  by_cases h1 : y = x
  · have e1 : (y == x) = true := by simp [h1]
    have hf : Hid (dx = ⟨(tell1 (x, y)).toArray⟩) := by show _ = _; rw [unhide HX]; simp [tell1, h1]
    clear h1
    go_enter Tryd.func22, Tryd.ntmps22
    go_wp2_with fail
    refine (unhide IX _ (unhide HT _)).mono ?_
    rintro e w1 ⟨rfl, hb1⟩
    have hb : Hid (Below w.heap.size w w1) := ((Below.refl _ _).alloc (Nat.le_refl _) _).trans (hb1.mono (by simp))
    have c0 : w1.cell? ⟨w.heap.size, 0, none⟩ = some (.int .i64 x) := (hb1.cell (by simp)).trans (by simp)
    have c1 : w1.cell? ⟨w.heap.size, 1, none⟩ = some (.int .i64 y) := (hb1.cell (by simp)).trans (by simp)
    clear hb1
    go_wp2_with fail
    go_ret
    exact ⟨ret_str (unhide hf), unhide hb⟩
  · have e1 : (y == x) = false := by simp [h1]
    by_cases h2 : y = 0
    · have e2 : (y == 0) = true := by simp [h2]
      have hf : Hid (dx ++ { data := #[45] } = ⟨(tell1 (x, y)).toArray⟩) := by
        show _ = _
        rw [unhide HX, show ({ data := #[45] } : ByteArray) = ⟨([45] : List UInt8).toArray⟩ from rfl, cat_bs]
        simp [tell1, h2, show ¬ (0 : Int) = x by omega]
      clear h1 h2
      go_enter Tryd.func22, Tryd.ntmps22
      go_wp2_with fail
      refine (unhide IX _ (unhide HT _)).mono ?_
      rintro e w1 ⟨rfl, hb1⟩
      have hb : Hid (Below w.heap.size w w1) := ((Below.refl _ _).alloc (Nat.le_refl _) _).trans (hb1.mono (by simp))
      have c0 : w1.cell? ⟨w.heap.size, 0, none⟩ = some (.int .i64 x) := (hb1.cell (by simp)).trans (by simp)
      have c1 : w1.cell? ⟨w.heap.size, 1, none⟩ = some (.int .i64 y) := (hb1.cell (by simp)).trans (by simp)
      clear hb1
      go_wp2_with fail
      go_ret
      exact ⟨ret_str (unhide hf), unhide hb⟩
    · have e2 : (y == 0) = false := by simp [h2]
      have hf : Hid ((dx ++ { data := #[45] }) ++ dy = ⟨(tell1 (x, y)).toArray⟩) := by
        show _ = _
        rw [unhide HX, unhide HY, show ({ data := #[45] } : ByteArray) = ⟨([45] : List UInt8).toArray⟩ from rfl, cat_bs, cat_bs]
        simp [tell1, h1, h2]
      clear h1 h2
      go_enter Tryd.func22, Tryd.ntmps22
      go_wp2_with fail
      refine (unhide IX _ (unhide HT _)).mono ?_
      rintro e w1 ⟨rfl, hb1⟩
      have hb : Hid (Below w.heap.size w w1) := ((Below.refl _ _).alloc (Nat.le_refl _) _).trans (hb1.mono (by simp))
      have c0 : w1.cell? ⟨w.heap.size, 0, none⟩ = some (.int .i64 x) := (hb1.cell (by simp)).trans (by simp)
      have c1 : w1.cell? ⟨w.heap.size, 1, none⟩ = some (.int .i64 y) := (hb1.cell (by simp)).trans (by simp)
      have ht1 : Hid (Tab w1) := (unhide HT _).below hb1
      clear hb1
      go_wp2_with fail
      refine (unhide IY _ (unhide ht1)).mono ?_
      rintro e w2 ⟨rfl, hb2⟩
      have hb' : Hid (Below w.heap.size w w2) := (unhide hb).trans (hb2.mono (unhide hb).size)
      clear hb2
      go_wp2_with fail
      go_ret
      exact ⟨ret_str (unhide hf), unhide hb'⟩
end Go.Proofs.YtijoemamnkhhnaaDoor.Ls
