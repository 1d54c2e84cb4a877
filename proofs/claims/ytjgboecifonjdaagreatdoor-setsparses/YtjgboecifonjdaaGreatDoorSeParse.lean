/- What appendClass, appendRange, readThing and Parse answer. -/
import Derived.Test.YtjgboecifonjdaaGreatDoorSeMap
import Derived.Test.YtjgboecifonjdaaGreatDoorSeSingle
import Derived.Laws.AppendOwnNone
import Derived.Laws.OwnMore
import Derived.Lib.UnsafeStr
namespace Go.Proofs.YtjgboecifonjdaaGreatDoor.Se
open Go.RowKit

theorem Tryz.infoByte : (Tryz.prog.info? 5).map (fun i => (i.zero, i.size, i.bytes)) = some (some (.int .u8 0), 1, 1) := by kernel_rfl
abbrev Row (B : Nat) (v : Value) (l : Bs) (w : World) : Prop := w.ownsRow B 5 1 v l.length (Lib.byteCells l)
theorem byte_new (w : World) (x : Value) (e : TypeId) : ∀ j u, [x][j]? = some u → (w.alloc (.cells #[x] e)).cell? ((⟨w.heap.size, 0, none⟩ : Addr).add j) = some u := by
  intro j u hj
  match j, hj with
  | 0, hj => simp at hj; subst hj; simp [Addr.add]
theorem byte_one (c : Int) : ∀ u ∈ [Value.int .u8 c], u.oneCell' = true := by
  intro u hu; simp at hu; subst hu; rfl
theorem row_snoc {w : World} {B : Nat} {v : Value} {l : Bs} {c : UInt8} {x : Int} (h : w.ownsRow B 5 1 v (l.length + 1) (Lib.byteCells l ++ [.int .u8 x])) (hx : x = c.toNat) : Row B v (l ++ [c]) w := by
  subst hx
  simpa [Row, Lib.byteCells] using h
theorem row_nil (w : World) (B : Nat) : Row B (.slice none 0 0) [] w := World.ownsRow_nil _ _ _ _
theorem row_slice {w : World} {B : Nat} {v : Value} {l : Bs} (h : Row B v l w) : ∃ a c, v = .slice a l.length c := by
  rcases h.2 with ⟨hv, h0⟩ | ⟨g, cap, cur, hv, _⟩
  · exact ⟨none, 0, by rw [hv, h0]⟩
  · exact ⟨_, _, hv⟩
theorem row_zero {w : World} {B g n cap : Nat} {l : Bs} (h : Row B (.slice (some ⟨g, 0, none⟩) n cap) l w) : Row B (.slice (some ⟨g, 0, none⟩) 0 cap) [] w := by
  rcases h.2 with ⟨h1, _⟩ | ⟨g', cap', cur, hv, hb, hg, h1, h2, h3, h4⟩
  · simp at h1
  · simp at hv
    obtain ⟨rfl, _, rfl⟩ := hv
    exact ⟨rfl, .inr ⟨g, cap, cur, rfl, hb, hg, Nat.zero_le _, h2, h3, by simp [Lib.byteCells]⟩⟩
theorem row_some {w : World} {B : Nat} {v : Value} {l : Bs} (h : Row B v l w) (h0 : 0 < l.length) : ∃ g c, v = .slice (some ⟨g, 0, none⟩) l.length c := by
  rcases h.2 with ⟨hv, h1⟩ | ⟨g, cap, cur, hv, _⟩
  · omega
  · exact ⟨_, _, hv⟩
theorem row_lo {w : World} {B : Nat} {v : Value} {l : Bs} (h : Row B v l w) : ∀ k, v.ownBlock = some k → B ≤ k := fun k hk => (h.lt k hk).1
theorem row_base {w : World} {B B' : Nat} {v : Value} {l : Bs} (h : Row B v l w) (hb : B' ≤ B) : Row B' v l w := by
  refine ⟨h.1, ?_⟩
  rcases h.2 with hn | ⟨g, cap, cur, rfl, hg, rest⟩
  · exact .inl hn
  · exact .inr ⟨g, cap, cur, rfl, by omega, rest⟩
theorem row_below {w w' : World} {B : Nat} {v : Value} {l : Bs} (h : Row B v l w) (hb : Below w.heap.size w w') : Row B v l w' :=
  h.kept (row := none) ⟨hb.os, hb.tape, hb.output, hb.size, fun k hk _ => hb.block k hk⟩ (by cases v.ownBlock <;> simp)
theorem grown_alloc {w w2 : World} {o : Obj} {row : Option Nat} (h : (w.alloc o).grownBy w2 row) : w.grownBy w2 row :=
  ⟨h.os, h.tape, h.output, Nat.le_trans (by simp) h.size, fun k hk hne => (h.block k (by simp; omega) hne).trans (Below.heap_alloc w o k hk)⟩
theorem filter_snoc (p : UInt8 → Bool) (k : Nat) : (span 0 (k + 1)).filter p = (span 0 k).filter p ++ (if p (UInt8.ofNat k) = true then [UInt8.ofNat k] else []) := by
  rw [span_snoc, List.filter_append, Nat.zero_add]
  congr 1
  by_cases h : p (UInt8.ofNat k) = true <;> simp [h]

set_option maxHeartbeats 1000000 in
set_option maxRecDepth 100000 in
theorem appendClass_any (w0 : World) (f : Value) (p : UInt8 → Bool) (v : Value) (l : Bs) (w : World) (hf : Cls w0 f p) (hb : Below w0.heap.size w0 w) (hr : Row w0.heap.size v l w) (hl : l.length ≤ 70000) :
    Calls Tryz.prog 56 #[v, f] w fun e w' => ∃ v', e = .returned v' ∧ Row w0.heap.size v' (l ++ bytes.filter p) w' ∧ Below w0.heap.size w w' := by
  obtain ⟨i0, hi, hz0, hz1, hz2⟩ := info_parts Tryz.infoByte
  obtain ⟨id, cap, rfl, heg, hcall⟩ := hf
  have HC := hide hcall
  have HB0 := hide hb
  obtain ⟨B, hB⟩ : ∃ B, B = w0.heap.size := ⟨_, rfl⟩
  have hs0 : B ≤ w.heap.size := by rw [hB]; exact hb.size
  have HC : Hid (∀ w' (c : UInt8), Below B w w' → Calls Tryz.prog id (#[.int .u8 (c.toNat : Int)] ++ cap) w' fun e w'' => e = .returned (.bool (p c)) ∧ Below w'.heap.size w' w'') := fun w' c hw => hcall w' c (.of (hb.trans (by rw [← hB]; exact hw)))
  rw [← hB] at hr ⊢
  have HR := hide hr
  clear hcall hr hb HB0 hB
  go_enter Tryz.func56, Tryz.ntmps56
  go_wp2_with fail
  go_loopw [0, 6] (fun u i wr => ∃ k : Nat, k ≤ 256 ∧ i = .int .i64 k ∧ Hid (Row B u (l ++ (span 0 k).filter p) wr) ∧ Hid (Below B w wr)) (fun _ i _ => 256 - (intOf i).toNat)
  case atStart => exact ⟨0, by omega, rfl, by simpa [span, Hid] using unhide HR, Below.refl _ _⟩
  case round =>
    obtain ⟨k, hk, rfl, hrow, hnx⟩ := hrel
    by_cases hlt : k < 256
    · have hk255 : (k : Int) ≤ 255 := by omega
      have hlt' : (k : Int) < 256 := by omega
      have hsz := (unhide hnx).size
      obtain ⟨c, hc⟩ : ∃ c, c = UInt8.ofNat k := ⟨_, rfl⟩
      have hck : (c.toNat : Int) = (k : Int) := by rw [hc]; simp; omega
      have hfl := hide (filter_snoc p k)
      rw [← hc] at hfl
      have hll : ((span 0 k).filter p).length ≤ 256 := Nat.le_trans (List.length_filter_le _ _) (by rw [span_length]; omega)
      have C : Hid (Calls Tryz.prog id (#[.int .u8 (k : Int)] ++ cap) wr fun e w'' => e = .returned (.bool (p c)) ∧ Below wr.heap.size wr w'') := by rw [← hck]; exact unhide HC wr c (unhide hnx)
      have hlen : (l ++ (span 0 k).filter p).length ≤ 70256 := by rw [List.length_append]; omega
      obtain ⟨L, hL⟩ : ∃ L, L = l ++ (span 0 k).filter p := ⟨_, rfl⟩
      rw [← hL] at hrow hlen
      have hcond : Hid (l ++ (span 0 (k + 1)).filter p = L ++ (if p c = true then [c] else [])) := by rw [unhide hfl, hL]; simp [Hid]
      have HCK := hide hck
      clear hc hck hfl hll hL
      go_wp2_with fail
      refine (unhide C).mono ?_
      rintro e w1 ⟨rfl, hb1⟩
      have hrow1 := hide (row_below (unhide hrow) hb1)
      have hB1 : Hid (Below B w w1) := (unhide hnx).trans (hb1.mono (by omega))
      have hs1 : B ≤ w1.heap.size := Nat.le_trans hs0 (unhide hB1).size
      clear C hrow hnx hb1 hsz
      cases hp : p c
      · rw [hp] at hcond
        clear hp
        have hn : Hid (Row B u0 (l ++ (span 0 (k + 1)).filter p) w1) := by rw [unhide hcond]; simpa [Hid] using unhide hrow1
        go_wp2_with fail
        go_roundw
        case rel => exact ⟨k + 1, by omega, by go_num, hn, hB1⟩
        case measure => simp [intOf]; omega
      · rw [hp] at hcond
        clear hp
        go_wp2_with (at_builtin; refine wpList_append_own _ rfl _ _ 23 rfl B 5 i0 (.int .u8 0) 1 1 Tryz.underlying23 hi hz0 hz1 hz2 rfl (by decide) _ _ _ rfl ((unhide hrow1).alloc _) ⟨w1.heap.size, 0, none⟩ 1 1 [.int .u8 (k : Int)] rfl rfl (byte_new _ _ _) (byte_one _) (by unfold maxLen; omega) (by omega) (by simp; omega) ?_; intro v' w9 hown9 hg9 hnil9)
        have hn : Hid (Row B v' (l ++ (span 0 (k + 1)).filter p) w9) := by rw [unhide hcond]; exact row_snoc hown9 (unhide HCK).symm
        have hB9 : Hid (Below B w w9) := (unhide hB1).grown (grown_alloc hg9) hs1 (row_lo (unhide hrow1))
        clear hown9 hg9 hnil9
        go_roundw
        case rel => exact ⟨k + 1, by omega, by go_num, hn, hB9⟩
        case measure => simp [intOf]; omega
    · obtain rfl : k = 256 := by omega
      go_wp2_with fail
      go_ret
      exact ⟨_, rfl, unhide hrow, unhide hnx⟩

set_option maxHeartbeats 1000000 in
set_option maxRecDepth 100000 in
theorem appendRange_any (B : Nat) (a b : UInt8) (v : Value) (l : Bs) (w : World) (hs0 : B ≤ w.heap.size) (hr : Row B v l w) (hab : a ≤ b) (hl : l.length ≤ 70000) :
    Calls Tryz.prog 58 #[v, .int .u8 a.toNat, .int .u8 b.toNat] w fun e w' => ∃ v', e = .returned v' ∧ Row B v' (l ++ spanTo a b) w' ∧ Below B w w' := by
  obtain ⟨i0, hi, hz0, hz1, hz2⟩ := info_parts Tryz.infoByte
  have HR := hide hr
  have hab' : a.toNat ≤ b.toNat := UInt8.le_iff_toNat_le.1 hab
  have hb255 := b.toNat_lt
  clear hr hab
  unfold spanTo
  obtain ⟨x, hx⟩ : ∃ x, x = a.toNat := ⟨_, rfl⟩
  obtain ⟨y, hy⟩ : ∃ y, y = b.toNat := ⟨_, rfl⟩
  rw [← hx, ← hy]
  rw [← hx, ← hy] at hab'
  rw [← hy] at hb255
  clear hx hy a b
  go_enter Tryz.func58, Tryz.ntmps58
  go_wp2_with fail
  go_loopw [0, 7] (fun u i wr => ∃ k : Nat, x + k ≤ y + 1 ∧ i = .int .i64 ((x + k : Nat) : Int) ∧ Hid (Row B u (l ++ span x k) wr) ∧ Hid (Below B w wr)) (fun _ i _ => y + 1 - (intOf i).toNat)
  case atStart => exact ⟨0, by omega, by go_num, by simpa [span, Hid] using unhide HR, Below.refl _ _⟩
  case round =>
    obtain ⟨k, hk, rfl, hrow, hnx⟩ := hrel
    obtain ⟨m, hm⟩ : ∃ m, m = x + k := ⟨_, rfl⟩
    rw [← hm] at hk ⊢
    by_cases hlt : m ≤ y
    · have hm255 : (m : Int) ≤ 255 := by omega
      have hlt' : (m : Int) ≤ (y : Int) := by omega
      have hs1 : B ≤ wr.heap.size := Nat.le_trans hs0 (unhide hnx).size
      have hlen : (l ++ span x k).length ≤ 70256 := by rw [List.length_append, span_length]; omega
      obtain ⟨c, hc⟩ : ∃ c, c = UInt8.ofNat m := ⟨_, rfl⟩
      have hck : Hid ((m : Int) = (c.toNat : Int)) := by rw [hc]; simp [Hid]; omega
      have hsn : Hid (l ++ span x (k + 1) = (l ++ span x k) ++ [c]) := by rw [span_snoc, hc, hm]; simp [Hid]
      obtain ⟨L, hL⟩ : ∃ L, L = l ++ span x k := ⟨_, rfl⟩
      rw [← hL] at hrow hlen hsn
      have HM := hide hm
      clear hL hc hm
      go_wp2_with (at_builtin; refine wpList_append_own _ rfl _ _ 23 rfl B 5 i0 (.int .u8 0) 1 1 Tryz.underlying23 hi hz0 hz1 hz2 rfl (by decide) _ _ _ rfl ((unhide hrow).alloc _) ⟨wr.heap.size, 0, none⟩ 1 1 [.int .u8 (m : Int)] rfl rfl (byte_new _ _ _) (byte_one _) (by unfold maxLen; omega) (by omega) (by simp; omega) ?_; intro v' w9 hown9 hg9 hnil9)
      have hn : Hid (Row B v' (l ++ span x (k + 1)) w9) := by rw [unhide hsn]; exact row_snoc hown9 (unhide hck)
      have hB9 : Hid (Below B w w9) := (unhide hnx).grown (grown_alloc hg9) hs1 (row_lo (unhide hrow))
      clear hown9 hg9 hnil9
      go_roundw
      case rel => exact ⟨k + 1, by have := unhide HM; omega, by have := unhide HM; go_num, hn, hB9⟩
      case measure => simp [intOf]; omega
    · have hkk : k = y + 1 - x := by omega
      have hlt' : ¬ (m : Int) ≤ (y : Int) := by omega
      rw [hkk] at hrow
      clear hkk hm
      go_wp2_with fail
      go_ret
      exact ⟨_, rfl, unhide hrow, unhide hnx⟩
end Go.Proofs.YtjgboecifonjdaaGreatDoor.Se
