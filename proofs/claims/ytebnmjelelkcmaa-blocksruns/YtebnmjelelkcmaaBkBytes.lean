/- A block that is being changed, in room of its own: fill, swab, raise, lower. -/
import Derived.Test.YtebnmjelelkcmaaBkCheck
import Derived.OwnWalk
import Derived.Deep.LoopGhost
set_option linter.unusedVariables false
namespace Go.Proofs.Ytebnmjelelkcmaa.Bk
open Go.RowKit Cu

def slLen : Value → Nat
  | .slice _ k _ => k
  | _ => 0
abbrev sl (g k n : Nat) : Value := .slice (some ⟨g, 0, none⟩) k n
theorem row_in {w : World} {B g k n : Nat} {l : Bs} (h : Row B (sl g k n) l w) : g < w.heap.size := (h.lt g rfl).2
theorem row_at {w : World} {B g n : Nat} {l : Bs} (h : Row B (sl g l.length n) l w) (j : Nat) (hj : j < l.length) : w.cell? ⟨g, j, none⟩ = some (.int .u8 (l[j].toNat : Int)) := by
  have := h.cellAt j (by rw [Nat.mul_one]; exact hj)
  rw [this]
  simp [Lib.byteCells, List.getElem?_eq_getElem hj]
theorem row_set {w : World} {B g n : Nat} {l : Bs} (h : Row B (sl g l.length n) l w) (j : Nat) (c : UInt8) : Row B (sl g (l.set j c).length n) (l.set j c) (w.setCell ⟨g, j, none⟩ (.int .u8 (c.toNat : Int))) := by
  have := (h.stored j (.int .u8 (c.toNat : Int))).1
  simpa [Row, Lib.byteCells, List.map_set] using this
theorem grown_set (w : World) (g j : Nat) (v : Value) : w.grownBy (w.setCell ⟨g, j, none⟩ v) (some g) :=
  ⟨rfl, rfl, rfl, by simp, fun k _ hne => heap_setCell_other _ _ _ _ (fun e => hne (by rw [e]))⟩
/-- the plan's cells, boxed above g, stay -/
theorem pl_cell {w wr : World} {g : Nat} {o : Obj} (h : (w.alloc o).grownBy wr (some g)) (hg : g < w.heap.size) (j : Nat) : wr.cell? ⟨w.heap.size, j, none⟩ = (w.alloc o).cell? ⟨w.heap.size, j, none⟩ :=
  World.cell?_of_block (a := ⟨w.heap.size, j, none⟩) (h.block w.heap.size (by simp) (fun e => by injection e with e; omega))
theorem grown_refl (w : World) (r : Option Nat) : w.grownBy w r := ⟨rfl, rfl, rfl, Nat.le_refl _, fun _ _ _ => rfl⟩
/-- a step of what becomes of a block -/
def Says (f : Nat) (φ : Pl → Bs → Bs) : Prop := ∀ (B g : Nat) (l : Bs) (p : Pl) (w : World), Row B (sl g l.length p.i.toNat) l w → 1 ≤ p.i → p.i ≤ 65536 → l.length ≤ p.i.toNat →
  Calls Try.prog f #[sl g l.length p.i.toNat, .agg (plC p)] w fun e w' => e = .returned (sl g (φ p l).length p.i.toNat) ∧ Row B (sl g (φ p l).length p.i.toNat) (φ p l) w' ∧ w.grownBy w' (some g)

theorem fill_more (n : Nat) (l : Bs) (h : l.length < n) : fillP n (l ++ [0]) = fillP n l := by
  unfold fillP
  rw [List.append_assoc, List.length_append, show n - l.length = (n - (l.length + [(0 : UInt8)].length)) + 1 from by simp; omega, List.replicate_succ]
  rfl
theorem fill_full (n : Nat) (l : Bs) (h : n ≤ l.length) : fillP n l = l := by unfold fillP; rw [show n - l.length = 0 from by omega]; simp

set_option maxRecDepth 100000 in
set_option maxHeartbeats 1000000 in
theorem fill_any : Says 35 b1P := by
  rintro B g l ⟨i, o, sk, ct, se, kp, sw, up, lo, sy⟩ w hR h1 h2 hl
  obtain ⟨i0, hi, hz0, hz1, hz2⟩ := info_parts Try.infoByte
  simp only at hR h1 h2 hl ⊢
  obtain ⟨n, rfl⟩ : ∃ n : Nat, i = n := ⟨i.toNat, by omega⟩
  rw [Int.toNat_natCast] at hR hl ⊢
  have hgl := row_in hR
  unfold b1P plC
  simp only [Int.toNat_natCast]
  cases sy
  · go_enter Try.func35, Try.ntmps35
    go_wp2_with fail
    go_ret
    exact ⟨rfl, hR.alloc _, World.grownBy_alloc w _ _⟩
  · rw [if_pos rfl]
    have HR := hide hR
    clear hR
    go_enter Try.func35, Try.ntmps35
    go_wp2_with fail
    obtain ⟨O, hO⟩ : ∃ O : Obj, O = .cells #[.int .i64 (n : Int), .int .i64 o, .int .i64 sk, .int .i64 ct, .int .i64 se, .bool kp, .bool sw, .bool up, .bool lo, .bool true] 23 := ⟨_, rfl⟩
    have hc0 : (w.alloc O).cell? ⟨w.heap.size, 0, none⟩ = some (.int .i64 (n : Int)) := by rw [hO]; simp
    rw [← hO]
    have HC0 := hide hc0
    clear hO hc0
    go_loopw [0] (fun b wr => ∃ l' : Bs, b = sl g l'.length n ∧ l'.length ≤ n ∧ Hid (fillP n l' = fillP n l) ∧ Hid (Row B (sl g l'.length n) l' wr) ∧ Hid ((w.alloc O).grownBy wr (some g))) (fun b _ => n - slLen b)
    case atStart => exact ⟨l, rfl, hl, rfl, (unhide HR).alloc _, grown_refl _ _⟩
    case round =>
      clear HR
      obtain ⟨l', rfl, hl', hf, hR, hG⟩ := hrel
      have hc := (pl_cell (unhide hG) hgl 0).trans (unhide HC0)
      by_cases hlt : l'.length < n
      · have hlt' : (l'.length : Int) < (n : Int) := by omega
        have hsz : g < wr.heap.size := row_in (unhide hR)
        go_wp2_with (at_builtin; refine wpList_append_fits _ rfl _ _ 61 rfl B 5 i0 1 Try.underlying61 hi hz1 g l'.length n _ rfl ((unhide hR).alloc _) ⟨wr.heap.size, 0, none⟩ 1 1 [.int .u8 0] rfl rfl (byte_new _ _ _) (byte_one _) (by omega) ?_; intro w9 hown9 hg9)
        have hR9 : Hid (Row B (sl g (l' ++ [0]).length n) (l' ++ [0]) w9) := by
          have := row_snoc (c := 0) hown9 rfl
          rw [List.length_append]; exact this
        have hG9 : Hid ((w.alloc O).grownBy w9 (some g)) := (unhide hG).trans (grown_alloc hg9)
        have hf9 : Hid (fillP n (l' ++ [0]) = fillP n l) := (fill_more n l' hlt).trans (unhide hf)
        clear hown9 hg9 hc
        go_wp2_with fail
        go_roundw
        case rel => exact ⟨l' ++ [0], by rw [List.length_append]; rfl, by rw [List.length_append]; simp; omega, hf9, hR9, hG9⟩
        case measure => simp [slLen]; omega
      · have hlt' : ¬ (l'.length : Int) < (n : Int) := by omega
        have hfin : Hid (l' = fillP n l) := (fill_full n l' (by omega)).symm.trans (unhide hf)
        go_wp2_with fail
        go_ret
        rw [← unhide hfin]
        exact ⟨rfl, unhide hR, ⟨(unhide hG).os, (unhide hG).tape, (unhide hG).output, Nat.le_trans (by simp) (unhide hG).size, fun k hk hne => ((unhide hG).block k (by simp; omega) hne).trans (Below.heap_alloc _ _ _ hk)⟩⟩

/-! ### swab -/
/-- so far as k bytes are swabbed -/
def swK (l : Bs) (k : Nat) : Bs := swabP (l.take k) ++ l.drop k
theorem swab_app : ∀ (a : Bs) (b c : UInt8), a.length % 2 = 0 → swabP (a ++ [b, c]) = swabP a ++ [c, b]
  | [], b, c, _ => rfl
  | [_], _, _, h => by simp at h
  | x :: y :: r, b, c, h => by
    have := swab_app r b c (by simp at h; omega)
    simp [swabP, this]
theorem swK_len (l : Bs) (k : Nat) : (swK l k).length = l.length := by unfold swK; rw [List.length_append, swab_len, List.length_take, List.length_drop]; omega
theorem swK_at (l : Bs) (k j : Nat) (h : k ≤ j) (hj : j < l.length) : (swK l k)[j]? = l[j]? := by
  unfold swK
  rw [List.getElem?_append_right (by rw [swab_len, List.length_take]; omega), swab_len, List.length_take, List.getElem?_drop, Nat.min_eq_left (by omega), show k + (j - k) = j from by omega]
theorem swK_step (l : Bs) (k : Nat) (hk : k % 2 = 0) (h : k + 1 < l.length) : ((swK l k).set k l[k + 1]).set (k + 1) l[k] = swK l (k + 2) := by
  have h0 : k < l.length := by omega
  have e1 : l.take (k + 2) = l.take k ++ [l[k], l[k + 1]] := by
    rw [List.take_succ_eq_append_getElem h, List.take_succ_eq_append_getElem h0, List.append_assoc]; rfl
  have e2 : l.drop k = l[k] :: l[k + 1] :: l.drop (k + 2) := by rw [List.drop_eq_getElem_cons h0, List.drop_eq_getElem_cons h]
  have hz : (swabP (l.take k)).length = k := by rw [swab_len, List.length_take]; omega
  unfold swK
  rw [e1, swab_app _ _ _ (by rw [List.length_take]; omega), e2, List.set_append_right _ _ (by omega), hz, Nat.sub_self, List.set_append_right _ _ (by omega), hz, show k + 1 - k = 1 from by omega, List.append_assoc]
  rfl
theorem swK_end (l : Bs) (k : Nat) (h : l.length ≤ k + 1) : swK l k = swabP l ∨ k % 2 = 1 := by
  by_cases e : k % 2 = 1
  · exact .inr e
  · refine .inl ?_
    unfold swK
    by_cases h1 : l.length ≤ k
    · rw [List.take_of_length_le h1, List.drop_eq_nil_of_le h1]; simp
    · have h2 : k < l.length := by omega
      have : l = l.take k ++ [l[k]] := by
        rw [← List.take_succ_eq_append_getElem h2, List.take_of_length_le h]
      have aux : ∀ (a : Bs) (b : UInt8), a.length % 2 = 0 → swabP (a ++ [b]) = swabP a ++ [b] := by
        intro a
        induction a using swabP.induct with
        | case1 x y r ih => intro b hb; simp [swabP, ih b (by simp at hb; omega)]
        | case2 a hne =>
          intro b hb
          match a, hne with
          | [], _ => rfl
          | [x], _ => simp at hb
          | x :: y :: r, hne => exact absurd rfl (hne x y r)
      have hd : l.drop k = [l[k]] := by rw [List.drop_eq_getElem_cons h2, List.drop_eq_nil_of_le h]
      rw [hd, ← aux _ _ (by rw [List.length_take]; omega), ← this]
theorem grown_under {w wr : World} {g : Nat} {o : Obj} (h : (w.alloc o).grownBy wr (some g)) : w.grownBy wr (some g) :=
  ⟨h.os, h.tape, h.output, Nat.le_trans (by simp) h.size, fun k hk hne => (h.block k (by simp; omega) hne).trans (Below.heap_alloc _ _ _ hk)⟩

theorem swab_round {B g n k : Nat} {x : Int} {l : Bs} {wr : World} (hR : Row B (sl g l.length n) (swK l k) wr) (hx : x = (k : Int) + 1) (hk : k % 2 = 0) (hlt : k + 1 < l.length) :
    ∃ a b : UInt8, wr.cell? ⟨g, x.toNat - 1, none⟩ = some (.int .u8 (a.toNat : Int)) ∧ wr.cell? ⟨g, x.toNat, none⟩ = some (.int .u8 (b.toNat : Int)) ∧ wr.frozen? ⟨g, x.toNat - 1, none⟩ = false ∧ wr.frozen? ⟨g, x.toNat, none⟩ = false ∧
      Row B (sl g l.length n) (swK l (k + 2)) ((wr.setCell ⟨g, x.toNat - 1, none⟩ (.int .u8 (b.toNat : Int))).setCell ⟨g, x.toNat, none⟩ (.int .u8 (a.toNat : Int))) := by
  rw [show x.toNat - 1 = k from by omega, show x.toNat = k + 1 from by omega]
  have hsl := swK_len l k
  have hR' : Row B (sl g (swK l k).length n) (swK l k) wr := by rw [hsl]; exact hR
  have h0 : k < (swK l k).length := by omega
  have h1 : k + 1 < (swK l k).length := by omega
  have a0 : (swK l k)[k] = l[k] := by
    have := swK_at l k k (Nat.le_refl _) (by omega)
    rw [List.getElem?_eq_getElem h0, List.getElem?_eq_getElem (by omega)] at this
    exact Option.some.inj this
  have a1 : (swK l k)[k + 1] = l[k + 1] := by
    have := swK_at l k (k + 1) (by omega) hlt
    rw [List.getElem?_eq_getElem h1, List.getElem?_eq_getElem hlt] at this
    exact Option.some.inj this
  refine ⟨l[k], l[k + 1], by rw [row_at hR' k h0, a0], by rw [row_at hR' (k + 1) h1, a1], hR'.frozenAt k, hR'.frozenAt (k + 1), ?_⟩
  have := row_set (row_set hR' k l[k + 1]) (k + 1) l[k]
  rw [swK_step l k hk hlt, swK_len] at this
  exact this
theorem grown_drew {w w' : World} {r : Option Nat} (h : w.grownBy w' r) : w.grownBy w'.drew r := ⟨h.os, h.tape, h.output, h.size, h.block⟩
set_option maxRecDepth 100000 in
set_option maxHeartbeats 1000000 in
theorem swab_any : Says 36 b2P := by
  rintro B g l ⟨i, o, sk, ct, se, kp, sw, up, lo, sy⟩ w hR h1 h2 hl
  simp only at hR h1 h2 hl ⊢
  obtain ⟨n, rfl⟩ : ∃ n : Nat, i = n := ⟨i.toNat, by omega⟩
  rw [Int.toNat_natCast] at hR hl ⊢
  have hgl := row_in hR
  unfold b2P plC
  simp only
  cases sw
  · go_enter Try.func36, Try.ntmps36
    go_wp2_with fail
    go_ret
    exact ⟨rfl, hR.alloc _, World.grownBy_alloc w _ _⟩
  · rw [if_pos rfl, swab_len]
    have HR := hide hR
    clear hR
    go_enter Try.func36, Try.ntmps36
    go_wp2_with fail
    obtain ⟨O, hO⟩ : ∃ O : Obj, O = .cells #[.int .i64 (n : Int), .int .i64 o, .int .i64 sk, .int .i64 ct, .int .i64 se, .bool kp, .bool true, .bool up, .bool lo, .bool sy] 23 := ⟨_, rfl⟩
    rw [← hO]
    clear hO
    go_loopw [5] (fun b wr => ∃ (k : Nat) (x : Int), b = .int .i64 x ∧ Hid (x = (k : Int) + 1) ∧ k ≤ l.length + 1 ∧ Hid (k % 2 = 0) ∧ Hid (Row B (sl g l.length n) (swK l k) wr) ∧ Hid ((w.alloc O).grownBy wr (some g))) (fun b _ => l.length + 2 - (intOf b).toNat)
    case atStart => exact ⟨0, 1, rfl, rfl, Nat.zero_le _, rfl, by simpa [Hid, swK, swabP] using (unhide HR).alloc O, grown_refl _ _⟩
    case round =>
      clear HR
      obtain ⟨k, x, rfl, hx, hk, hk2, hR, hG⟩ := hrel
      have x0 : 0 ≤ x - 1 := by have := unhide hx; omega
      have x1 : 0 ≤ x := by omega
      by_cases hlt : k + 1 < l.length
      · have y0 : x < (l.length : Int) := by have := unhide hx; omega
        have y1 : x - 1 < (l.length : Int) := by omega
        obtain ⟨a, b, c0, c1, f0, f1, hR2⟩ := swab_round (unhide hR) (unhide hx) (unhide hk2) hlt
        have HR2 := hide hR2
        have hG2 : Hid ((w.alloc O).grownBy ((wr.setCell ⟨g, x.toNat - 1, none⟩ (.int .u8 (b.toNat : Int))).setCell ⟨g, x.toNat, none⟩ (.int .u8 (a.toNat : Int))) (some g)) := ((unhide hG).trans (grown_set _ _ _ _)).trans (grown_set _ _ _ _)
        have hne : ¬ x.toNat - 1 = x.toNat := by omega
        have hx9 : x ≤ 65536 := by omega
        clear hR2
        go_wp2_with fail
        go_region
        go_wp2_with fail
        go_roundw
        case rel => exact ⟨k + 2, x + 2, rfl, by have := unhide hx; show x + 2 = _; omega, by omega, by have := unhide hk2; show (k + 2) % 2 = 0; omega, HR2, grown_drew (unhide hG2)⟩
        case measure => simp [intOf]; omega
      · have y0 : ¬ x < (l.length : Int) := by have := unhide hx; omega
        have hfin : Hid (swK l k = swabP l) := by
          rcases swK_end l k (by omega) with h | h
          · exact h
          · have := unhide hk2; omega
        go_wp2_with fail
        go_ret
        refine ⟨rfl, ?_, grown_under (unhide hG)⟩
        rw [← unhide hfin]
        exact unhide hR

/-! ### letters -/
def mapK (f : UInt8 → UInt8) (l : Bs) (k : Nat) : Bs := (l.take k).map f ++ l.drop k
theorem mapK_len (f : UInt8 → UInt8) (l : Bs) (k : Nat) : (mapK f l k).length = l.length := by unfold mapK; simp; omega
theorem mapK_at (f : UInt8 → UInt8) (l : Bs) (k : Nat) (h : k < l.length) : (mapK f l k)[k]'(by rw [mapK_len]; exact h) = l[k] := by
  have hz : ((l.take k).map f).length = k := by simp; omega
  have : (mapK f l k)[k]? = some l[k] := by
    unfold mapK
    rw [List.getElem?_append_right (by omega), hz, Nat.sub_self, List.getElem?_drop, Nat.add_zero, List.getElem?_eq_getElem h]
  rw [List.getElem?_eq_getElem (by rw [mapK_len]; exact h)] at this
  exact Option.some.inj this
theorem mapK_set (f : UInt8 → UInt8) (l : Bs) (k : Nat) (h : k < l.length) : (mapK f l k).set k (f l[k]) = mapK f l (k + 1) := by
  have hz : ((l.take k).map f).length = k := by simp; omega
  unfold mapK
  rw [List.set_append_right _ _ (by omega), hz, Nat.sub_self, List.drop_eq_getElem_cons h, List.take_succ_eq_append_getElem h, List.map_append, List.append_assoc]
  rfl
theorem mapK_same (f : UInt8 → UInt8) (l : Bs) (k : Nat) (h : k < l.length) (e : f l[k] = l[k]) : mapK f l (k + 1) = mapK f l k := by
  rw [← mapK_set f l k h, e]
  have := mapK_at f l k h
  rw [← this, List.set_getElem_self]
theorem mapK_end (f : UInt8 → UInt8) (l : Bs) (k : Nat) (h : l.length ≤ k) : mapK f l k = l.map f := by
  unfold mapK; rw [List.take_of_length_le h, List.drop_eq_nil_of_le h]; simp
theorem map_round {B g n k : Nat} {f : UInt8 → UInt8} {l : Bs} {wr : World} (hR : Row B (sl g l.length n) (mapK f l k) wr) (h : k < l.length) :
    ∃ c : UInt8, wr.cell? ⟨g, k, none⟩ = some (.int .u8 (c.toNat : Int)) ∧ wr.frozen? ⟨g, k, none⟩ = false ∧ Row B (sl g l.length n) (mapK f l (k + 1)) (wr.setCell ⟨g, k, none⟩ (.int .u8 ((f c).toNat : Int))) ∧ (f c = c → Row B (sl g l.length n) (mapK f l (k + 1)) wr) := by
  have hR' : Row B (sl g (mapK f l k).length n) (mapK f l k) wr := by rw [mapK_len]; exact hR
  have hk : k < (mapK f l k).length := by rw [mapK_len]; exact h
  refine ⟨l[k], by rw [row_at hR' k hk, mapK_at f l k h], hR'.frozenAt k, ?_, fun e => by rw [mapK_same f l k h e]; exact hR⟩
  have := row_set hR' k (f l[k])
  rw [mapK_set f l k h, mapK_len] at this
  exact this
theorem upC_yes (c : UInt8) (h1 : 97 ≤ (c.toNat : Int)) (h2 : (c.toNat : Int) ≤ 122) : ((upC c).toNat : Int) = (c.toNat : Int) - 97 + 65 := by
  have a : (97 : UInt8) ≤ c := UInt8.le_iff_toNat_le.2 (by simp; omega)
  have b : c ≤ (122 : UInt8) := UInt8.le_iff_toNat_le.2 (by simp; omega)
  unfold upC
  rw [if_pos ⟨a, b⟩, UInt8.toNat_sub_of_le _ _ (UInt8.le_iff_toNat_le.2 (by simp; omega))]
  simp; omega
theorem upC_no (c : UInt8) (h : ¬ (97 ≤ (c.toNat : Int) ∧ (c.toNat : Int) ≤ 122)) : upC c = c := by
  unfold upC
  rw [if_neg]
  rintro ⟨a, b⟩
  have a' := UInt8.le_iff_toNat_le.1 a
  have b' := UInt8.le_iff_toNat_le.1 b
  simp at a' b'
  omega
theorem loC_yes (c : UInt8) (h1 : 65 ≤ (c.toNat : Int)) (h2 : (c.toNat : Int) ≤ 90) : ((loC c).toNat : Int) = (c.toNat : Int) - 65 + 97 := by
  have a : (65 : UInt8) ≤ c := UInt8.le_iff_toNat_le.2 (by simp; omega)
  have b : c ≤ (90 : UInt8) := UInt8.le_iff_toNat_le.2 (by simp; omega)
  unfold loC
  rw [if_pos ⟨a, b⟩, UInt8.toNat_add]
  simp; omega
theorem loC_no (c : UInt8) (h : ¬ (65 ≤ (c.toNat : Int) ∧ (c.toNat : Int) ≤ 90)) : loC c = c := by
  unfold loC
  rw [if_neg]
  rintro ⟨a, b⟩
  have a' := UInt8.le_iff_toNat_le.1 a
  have b' := UInt8.le_iff_toNat_le.1 b
  simp at a' b'
  omega
set_option maxRecDepth 100000 in
set_option maxHeartbeats 1000000 in
theorem raise_any : Says 37 b3P := by
  rintro B g l ⟨i, o, sk, ct, se, kp, sw, up, lo, sy⟩ w hR h1 h2 hl
  simp only at hR h1 h2 hl ⊢
  obtain ⟨n, rfl⟩ : ∃ n : Nat, i = n := ⟨i.toNat, by omega⟩
  rw [Int.toNat_natCast] at hR hl ⊢
  have hgl := row_in hR
  unfold b3P plC
  simp only
  cases up
  · go_enter Try.func37, Try.ntmps37
    go_wp2_with fail
    go_ret
    exact ⟨rfl, hR.alloc _, World.grownBy_alloc w _ _⟩
  · rw [if_pos rfl, List.length_map]
    have HR := hide hR
    clear hR
    go_enter Try.func37, Try.ntmps37
    go_wp2_with fail
    obtain ⟨O, hO⟩ : ∃ O : Obj, O = .cells #[.int .i64 (n : Int), .int .i64 o, .int .i64 sk, .int .i64 ct, .int .i64 se, .bool kp, .bool sw, .bool true, .bool lo, .bool sy] 23 := ⟨_, rfl⟩
    rw [← hO]
    clear hO
    go_loopw [13] (fun b wr => ∃ k : Nat, b = .int .i64 k ∧ k ≤ l.length ∧ Hid (Row B (sl g l.length n) (mapK upC l k) wr) ∧ Hid ((w.alloc O).grownBy wr (some g))) (fun b _ => l.length - (intOf b).toNat)
    case atStart => exact ⟨0, rfl, Nat.zero_le _, by simpa [Hid, mapK] using (unhide HR).alloc O, grown_refl _ _⟩
    case round =>
      clear HR
      obtain ⟨k, rfl, hk, hR, hG⟩ := hrel
      by_cases hlt : k < l.length
      · have y0 : (k : Int) < (l.length : Int) := by omega
        obtain ⟨c, c0, f0, hR2, hR3⟩ := map_round (unhide hR) hlt
        have hG2 : Hid ((w.alloc O).grownBy (wr.setCell ⟨g, k, none⟩ (.int .u8 ((upC c).toNat : Int))) (some g)) := (unhide hG).trans (grown_set _ _ _ _)
        have hc9 : (c.toNat : Int) < 256 := by have := c.toNat_lt; omega
        by_cases hy : 97 ≤ (c.toNat : Int) ∧ (c.toNat : Int) ≤ 122
        · rw [upC_yes c hy.1 hy.2] at hR2 hG2
          have HR2 := hide hR2
          obtain ⟨hy1, hy2⟩ := hy
          clear hR2 hR3
          go_wp2_with fail
          go_roundw
          case rel => exact ⟨k + 1, by go_num, by omega, HR2, hG2⟩
          case measure => simp [intOf]; omega
        · have HR2 := hide (hR3 (upC_no c hy))
          clear hR2 hR3 hG2
          by_cases hy1 : 97 ≤ (c.toNat : Int)
          · have hy2 : ¬ (c.toNat : Int) ≤ 122 := fun h => hy ⟨hy1, h⟩
            clear hy
            go_wp2_with fail
            go_roundw
            case rel => exact ⟨k + 1, by go_num, by omega, HR2, hG⟩
            case measure => simp [intOf]; omega
          · clear hy
            go_wp2_with fail
            go_roundw
            case rel => exact ⟨k + 1, by go_num, by omega, HR2, hG⟩
            case measure => simp [intOf]; omega
      · have y0 : ¬ (k : Int) < (l.length : Int) := by omega
        have hfin := hide (mapK_end upC l k (by omega))
        go_wp2_with fail
        go_ret
        refine ⟨rfl, ?_, grown_under (unhide hG)⟩
        rw [← unhide hfin]
        exact unhide hR
set_option maxRecDepth 100000 in
set_option maxHeartbeats 1000000 in
theorem lower_any : Says 38 b4P := by
  rintro B g l ⟨i, o, sk, ct, se, kp, sw, up, lo, sy⟩ w hR h1 h2 hl
  simp only at hR h1 h2 hl ⊢
  obtain ⟨n, rfl⟩ : ∃ n : Nat, i = n := ⟨i.toNat, by omega⟩
  rw [Int.toNat_natCast] at hR hl ⊢
  have hgl := row_in hR
  unfold b4P plC
  simp only
  cases lo
  · go_enter Try.func38, Try.ntmps38
    go_wp2_with fail
    go_ret
    exact ⟨rfl, hR.alloc _, World.grownBy_alloc w _ _⟩
  · rw [if_pos rfl, List.length_map]
    have HR := hide hR
    clear hR
    go_enter Try.func38, Try.ntmps38
    go_wp2_with fail
    obtain ⟨O, hO⟩ : ∃ O : Obj, O = .cells #[.int .i64 (n : Int), .int .i64 o, .int .i64 sk, .int .i64 ct, .int .i64 se, .bool kp, .bool sw, .bool up, .bool true, .bool sy] 23 := ⟨_, rfl⟩
    rw [← hO]
    clear hO
    go_loopw [13] (fun b wr => ∃ k : Nat, b = .int .i64 k ∧ k ≤ l.length ∧ Hid (Row B (sl g l.length n) (mapK loC l k) wr) ∧ Hid ((w.alloc O).grownBy wr (some g))) (fun b _ => l.length - (intOf b).toNat)
    case atStart => exact ⟨0, rfl, Nat.zero_le _, by simpa [Hid, mapK] using (unhide HR).alloc O, grown_refl _ _⟩
    case round =>
      clear HR
      obtain ⟨k, rfl, hk, hR, hG⟩ := hrel
      by_cases hlt : k < l.length
      · have y0 : (k : Int) < (l.length : Int) := by omega
        obtain ⟨c, c0, f0, hR2, hR3⟩ := map_round (unhide hR) hlt
        have hG2 : Hid ((w.alloc O).grownBy (wr.setCell ⟨g, k, none⟩ (.int .u8 ((loC c).toNat : Int))) (some g)) := (unhide hG).trans (grown_set _ _ _ _)
        have hc9 : (c.toNat : Int) < 256 := by have := c.toNat_lt; omega
        by_cases hy : 65 ≤ (c.toNat : Int) ∧ (c.toNat : Int) ≤ 90
        · rw [loC_yes c hy.1 hy.2] at hR2 hG2
          have HR2 := hide hR2
          obtain ⟨hy1, hy2⟩ := hy
          clear hR2 hR3
          go_wp2_with fail
          go_roundw
          case rel => exact ⟨k + 1, by go_num, by omega, HR2, hG2⟩
          case measure => simp [intOf]; omega
        · have HR2 := hide (hR3 (loC_no c hy))
          clear hR2 hR3 hG2
          by_cases hy1 : 65 ≤ (c.toNat : Int)
          · have hy2 : ¬ (c.toNat : Int) ≤ 90 := fun h => hy ⟨hy1, h⟩
            clear hy
            go_wp2_with fail
            go_roundw
            case rel => exact ⟨k + 1, by go_num, by omega, HR2, hG⟩
            case measure => simp [intOf]; omega
          · clear hy
            go_wp2_with fail
            go_roundw
            case rel => exact ⟨k + 1, by go_num, by omega, HR2, hG⟩
            case measure => simp [intOf]; omega
      · have y0 : ¬ (k : Int) < (l.length : Int) := by omega
        have hfin := hide (mapK_end loC l k (by omega))
        go_wp2_with fail
        go_ret
        refine ⟨rfl, ?_, grown_under (unhide hG)⟩
        rw [← unhide hfin]
        exact unhide hR
end Go.Proofs.Ytebnmjelelkcmaa.Bk
