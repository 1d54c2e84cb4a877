/- What TwinBytes and TwinEntries answer. -/
import Derived.Test.YthmoinagfooncaaGreatDoorTrOwn
import Derived.Room.AppendFits
namespace Go.Proofs.YthmoinagfooncaaGreatDoor.Tr
open Go.RowKit Go.Proofs.YthmoinagfooncaaGreatDoor.Cu

theorem Tryz.infoB : (Tryz.prog.info? 5).map (fun i => (i.zero, i.size, i.bytes)) = some (some (.int .u8 0), 1, 1) := by kernel_rfl
theorem Tryz.infoE : (Tryz.prog.info? 50).map (fun i => (i.zero, i.size, i.bytes)) = some (some (.agg #[.string ⟨#[]⟩, .int .i64 0]), 2, 24) := by kernel_rfl
def bc (l : Bs) : List Value := l.map fun c => .int .u8 c.toNat
def el (l : List En) : List Value := l.flatMap ec
theorem el_length (l : List En) : (el l).length = l.length * 2 := by
  induction l with
  | nil => rfl
  | cons r l ih => simp [el, ec] at ih ⊢; omega
theorem el_get (l : List En) (i j : Nat) (h : i < l.length) (hj : j < 2) : (el l)[i * 2 + j]? = (ec (en l i))[j]? := by
  induction l generalizing i with
  | nil => simp at h
  | cons r l ih =>
    have e : el (r :: l) = ec r ++ el l := by simp [el]
    rw [e]
    cases i with
    | zero => rw [List.getElem?_append_left (by show 0 * 2 + j < 2; omega)]; simp [en]
    | succ i =>
      rw [List.getElem?_append_right (by show 2 ≤ _; omega), show (ec r).length = 2 from rfl, show (i + 1) * 2 + j - 2 = i * 2 + j by omega, ih i (by simpa using h)]
      rfl
theorem en_take (l : List En) (k : Nat) (h : k < l.length) : l.take (k + 1) = l.take k ++ [en l k] := by
  rw [List.take_succ_eq_append_getElem h]; simp [en, List.getD, List.getElem?_eq_getElem h]
theorem bs_take (l : Bs) (k : Nat) (h : k < l.length) : l.take (k + 1) = l.take k ++ [l.getD k 0] := by
  rw [List.take_succ_eq_append_getElem h]; simp [List.getD, List.getElem?_eq_getElem h]
abbrev em : En := ⟨⟨#[115, 112, 97, 114, 101]⟩, 0⟩
/-- a copy of bytes at block g, and behind them the mark -/
def TwB (w : World) (g : Nat) (l : Bs) : Prop := (∀ i, i < l.length → w.cell? ⟨g, i, none⟩ = some (.int .u8 (l.getD i 0).toNat)) ∧ w.cell? ⟨g, l.length, none⟩ = some (.int .u8 77)
theorem TwB.below {w w' : World} {g : Nat} {l : Bs} (h : TwB w g l) (hg : g < w.heap.size) (hb : Below w.heap.size w w') : TwB w' g l :=
  ⟨fun i hi => (hb.cell hg).trans (h.1 i hi), (hb.cell hg).trans h.2⟩
theorem TwB.bytes {w : World} {g : Nat} {l : Bs} (h : TwB w g l) (hg : g < w.heap.size) : By w (some ⟨g, 0, none⟩) l.length (l.length + 1) l :=
  ⟨rfl, by omega, by simp, .inr ⟨g, 0, rfl, hg, fun i hi => by rw [Nat.zero_add]; exact h.1 i hi⟩⟩
/-- a copy of names at block g, and behind them the mark -/
def TwE (w : World) (g : Nat) (l : List En) : Prop := (∀ i, i < l.length → E2 w g (i * 2) (en l i)) ∧ E2 w g (l.length * 2) em
theorem TwE.below {w w' : World} {g : Nat} {l : List En} (h : TwE w g l) (hg : g < w.heap.size) (hb : Below w.heap.size w w') : TwE w' g l :=
  ⟨fun i hi => (h.1 i hi).of fun _ => hb.cell hg, h.2.of fun _ => hb.cell hg⟩
theorem TwE.ents {w : World} {g : Nat} {l : List En} (h : TwE w g l) (hg : g < w.heap.size) : Eg w (some ⟨g, 0, none⟩) l.length (l.length + 1) l :=
  ⟨rfl, by omega, by simp, .inr ⟨g, 0, rfl, hg, fun i hi => by rw [Nat.zero_add]; exact h.1 i hi⟩⟩
theorem twB_of {w : World} {base g cap : Nat} {l : Bs} {n : Nat} (hn : n = l.length) (h : w.ownsRow base 5 1 (.slice (some ⟨g, 0, none⟩) (n + 1) cap) (n + 1) (bc l ++ [.int .u8 77])) : TwB w g l := by
  subst hn
  have hl : (bc l).length = l.length := by simp [bc]
  have hc := h.cells (g := g) rfl
  have ha : ∀ j, (⟨g, 0, none⟩ : Addr).add j = ⟨g, j, none⟩ := by intro j; rw [add_none, Nat.zero_add]
  refine ⟨fun i hi => ?_, ?_⟩
  · rw [← ha]; exact hc _ _ (by rw [List.getElem?_append_left (by omega)]; simp [bc, List.getD, List.getElem?_eq_getElem hi])
  · rw [← ha]; exact hc _ _ (by rw [List.getElem?_append_right (by omega), hl, Nat.sub_self]; rfl)
theorem e2_at {w : World} {b o : Nat} {e : En} (h : ∀ j u, (ec e)[j]? = some u → w.cell? ⟨b, o + j, none⟩ = some u) : E2 w b o e := ⟨h 0 _ rfl, h 1 _ rfl⟩
theorem twE_of {w : World} {base g cap : Nat} {l : List En} {n : Nat} (hn : n = l.length) (h : w.ownsRow base 50 2 (.slice (some ⟨g, 0, none⟩) (n + 1) cap) (n + 1) (el l ++ ec em)) : TwE w g l := by
  subst hn
  have hl := el_length l
  have hc := h.cells (g := g) rfl
  have ha : ∀ j, (⟨g, 0, none⟩ : Addr).add j = ⟨g, j, none⟩ := by intro j; rw [add_none, Nat.zero_add]
  refine ⟨fun i hi => e2_at fun j u hj => ?_, e2_at fun j u hj => ?_⟩
  · have hj2 : j < 2 := (List.getElem?_eq_some_iff.1 hj).1
    rw [← ha]; exact hc _ _ (by rw [List.getElem?_append_left (by omega), el_get l i j hi hj2]; exact hj)
  · rw [← ha]; exact hc _ _ (by rw [List.getElem?_append_right (by omega), hl, Nat.add_sub_cancel_left]; exact hj)
theorem ent_new (w : World) (e : En) (t : TypeId) : ∀ j u, (ec e)[j]? = some u → (w.alloc (.cells (ec e).toArray t)).cell? ((⟨w.heap.size, 0, none⟩ : Addr).add j) = some u := by
  intro j u hj
  rw [add_none, cell_of_row _ _ _ _ _ _ (heap_alloc_new w _), Nat.zero_add]
  simpa using hj
theorem ent_one (e : En) : ∀ u ∈ ec e, u.oneCell' = true := by
  intro u hu; simp [ec] at hu; rcases hu with rfl | rfl <;> rfl

set_option maxHeartbeats 1000000 in
set_option maxRecDepth 100000 in
theorem twinB_some (b off len cap : Nat) (l : Bs) (w : World) (h : ∀ i, i < len → w.cell? ⟨b, off + i, none⟩ = some (.int .u8 (l.getD i 0).toNat)) (hb : b < w.heap.size) (hl : l.length = len) (hlen : len ≤ 1048576) :
    Calls Tryz.prog 49 #[.slice (some ⟨b, off, none⟩) len cap] w fun e w' => e = .returned (.slice (some ⟨w.heap.size, 0, none⟩) len (len + 1)) ∧ TwB w' w.heap.size l ∧ Below w.heap.size w w' ∧ w.heap.size < w'.heap.size := by
  obtain ⟨i0, hi, hz0, hz1, hz2⟩ := info_parts Tryz.infoB
  have HC := hide h
  have HL := hide hl
  clear h hl
  go_enter Tryz.func49, Tryz.ntmps49
  go_wp2_with (at_make; refine wpList_make_own _ rfl _ _ 46 rfl w.heap.size 5 i0 _ 1 Tryz.underlying46 hi hz0 hz1 _ _ _ (len + 1) rfl rfl (by omega) (by rw [hz2]; omega) (by unfold maxLen; omega) (Nat.le_refl _) ?_; intro w1 hown1 hgrow1)
  have hb1 : Below w.heap.size w w1 := (Below.refl _ _).grown hgrow1 (Nat.le_refl _) (by simp)
  have hs1 : w.heap.size < w1.heap.size := (hown1.lt _ rfl).2
  clear hgrow1
  go_loopw [3, 4] (fun v i wr => ∃ k : Nat, k ≤ len ∧ i = .int .i64 k ∧ v = .slice (some ⟨w.heap.size, 0, none⟩) k (len + 1) ∧
      Hid (wr.ownsRow w.heap.size 5 1 (.slice (some ⟨w.heap.size, 0, none⟩) k (len + 1)) k (bc (l.take k))) ∧ Hid (Below w.heap.size w wr)) (fun _ i _ => len - (intOf i).toNat)
  case atStart => exact ⟨0, Nat.zero_le _, rfl, rfl, hown1, hb1⟩
  case round =>
    clear hown1 hb1 hs1
    obtain ⟨k, hk, rfl, rfl, hown, hnx⟩ := hrel
    have hsz := (unhide hnx).size
    have hlt0 := ((unhide hown).lt _ rfl).2
    by_cases hlt : k < len
    · have hc0 := ((unhide hnx).cell (p := ⟨b, off + k, none⟩) hb).trans (unhide HC k hlt)
      have hd := hide (bs_take l k (by rw [unhide HL]; exact hlt))
      obtain ⟨c, hx⟩ : ∃ c, c = l.getD k 0 := ⟨_, rfl⟩
      rw [← hx] at hd
      rw [← hx] at hc0
      clear hx
      go_wp2_with (at_builtin; refine wpList_append_fits _ rfl _ _ 46 rfl w.heap.size 5 i0 1 Tryz.underlying46 hi hz1 w.heap.size k (len + 1) _ rfl ((unhide hown).alloc _) ⟨wr.heap.size, 0, none⟩ 1 1 [.int .u8 c.toNat] rfl rfl (by exact byte_new _ _ _) (by exact byte_one _) (by omega) ?_)
      intro w2 hown2 hgrow2
      have hb2 : Hid (Below w.heap.size w w2) := ((unhide hnx).alloc hsz _).grown hgrow2 (by simp; omega) (by simp)
      have ho2 : Hid (w2.ownsRow w.heap.size 5 1 (.slice (some ⟨w.heap.size, 0, none⟩) (k + 1) (len + 1)) (k + 1) (bc (l.take (k + 1)))) := by
        have e : bc (l.take (k + 1)) = bc (l.take k) ++ bc [c] := by rw [unhide hd]; simp [bc]
        rw [e]; exact hown2
      clear hgrow2 hown hnx hown2 hd
      go_wp2
      go_roundw
      case rel => exact ⟨k + 1, by omega, by go_num, rfl, ho2, hb2⟩
      case measure => simp [intOf]; omega
    · have e : k = len := by omega
      subst e
      have ht : l.take k = l := List.take_of_length_le (by rw [unhide HL]; omega)
      rw [ht] at hown
      go_wp2_with (at_builtin; refine wpList_append_fits _ rfl _ _ 46 rfl w.heap.size 5 i0 1 Tryz.underlying46 hi hz1 w.heap.size k (k + 1) _ rfl ((unhide hown).alloc _) ⟨wr.heap.size, 0, none⟩ 1 1 [.int .u8 77] rfl rfl (by exact byte_new _ _ _) (by exact byte_one _) (by omega) ?_)
      intro w2 hown2 hgrow2
      have hb2 : Below w.heap.size w w2 := ((unhide hnx).alloc hsz _).grown hgrow2 (by simp; omega) (by simp)
      have hs2 : w.heap.size < w2.heap.size := (hown2.lt _ rfl).2
      have htw := twB_of (unhide HL).symm hown2
      clear hgrow2 hown2
      go_wp2
      go_ret
      exact ⟨rfl, htw, hb2, hs2⟩
set_option maxHeartbeats 800000 in
set_option maxRecDepth 100000 in
theorem twinB_none (a : Option Addr) (cap : Nat) (w : World) :
    Calls Tryz.prog 49 #[.slice a 0 cap] w fun e w' => e = .returned (.slice (some ⟨w.heap.size, 0, none⟩) 0 (0 + 1)) ∧ TwB w' w.heap.size [] ∧ Below w.heap.size w w' ∧ w.heap.size < w'.heap.size := by
  obtain ⟨i0, hi, hz0, hz1, hz2⟩ := info_parts Tryz.infoB
  go_enter Tryz.func49, Tryz.ntmps49
  go_wp2_with (at_make; refine wpList_make_own _ rfl _ _ 46 rfl w.heap.size 5 i0 _ 1 Tryz.underlying46 hi hz0 hz1 _ _ _ (0 + 1) rfl rfl (by omega) (by rw [hz2]; omega) (by unfold maxLen; omega) (Nat.le_refl _) ?_; intro w1 hown1 hgrow1)
  have hb1 : Below w.heap.size w w1 := (Below.refl _ _).grown hgrow1 (Nat.le_refl _) (by simp)
  have hs1 : w.heap.size < w1.heap.size := (hown1.lt _ rfl).2
  clear hgrow1
  refine wp_loop_rounds 1 ?_
  rw [rounds_succ]
  go_wp2_with (at_builtin; refine wpList_append_fits _ rfl _ _ 46 rfl w.heap.size 5 i0 1 Tryz.underlying46 hi hz1 w.heap.size 0 (0 + 1) _ rfl (hown1.alloc _) ⟨w1.heap.size, 0, none⟩ 1 1 [.int .u8 77] rfl rfl (by exact byte_new _ _ _) (by exact byte_one _) (by omega) ?_)
  intro w2 hown2 hgrow2
  have hb2 : Below w.heap.size w w2 := (hb1.alloc hb1.size _).grown hgrow2 (by simp; omega) (by simp)
  have hs2 : w.heap.size < w2.heap.size := (hown2.lt _ rfl).2
  have htw := twB_of (l := []) rfl hown2
  clear hgrow2 hown2
  go_wp2
  go_ret
  exact ⟨rfl, htw, hb2, hs2⟩
theorem twinB_any (a : Option Addr) (len cap : Nat) (l : Bs) (w : World) (h : By w a len cap l) (hlen : len ≤ 1048576) :
    Calls Tryz.prog 49 #[.slice a len cap] w fun e w' => e = .returned (.slice (some ⟨w.heap.size, 0, none⟩) len (len + 1)) ∧ TwB w' w.heap.size l ∧ Below w.heap.size w w' ∧ w.heap.size < w'.heap.size := by
  rcases h.cells with rfl | ⟨b, off, rfl, hb, hc⟩
  · obtain rfl : l = [] := List.eq_nil_of_length_eq_zero h.len
    exact twinB_none a cap w
  · exact twinB_some b off len cap l w hc hb h.len hlen

set_option maxHeartbeats 1000000 in
set_option maxRecDepth 100000 in
theorem twinE_some (b off len cap : Nat) (l : List En) (w : World) (h : ∀ i, i < len → E2 w b (off + i * 2) (en l i)) (hb : b < w.heap.size) (hl : l.length = len) (hlen : len ≤ 1048576) :
    Calls Tryz.prog 50 #[.slice (some ⟨b, off, none⟩) len cap] w fun e w' => e = .returned (.slice (some ⟨w.heap.size, 0, none⟩) len (len + 1)) ∧ TwE w' w.heap.size l ∧ Below w.heap.size w w' ∧ w.heap.size < w'.heap.size := by
  obtain ⟨i0, hi, hz0, hz1, hz2⟩ := info_parts Tryz.infoE
  have HC := hide h
  have HL := hide hl
  clear h hl
  go_enter Tryz.func50, Tryz.ntmps50
  go_wp2_with (at_make; refine wpList_make_own _ rfl _ _ 44 rfl w.heap.size 50 i0 _ 2 Tryz.underlying44 hi hz0 hz1 _ _ _ (len + 1) rfl rfl (by omega) (by rw [hz2]; omega) (by unfold maxLen; omega) (Nat.le_refl _) ?_; intro w1 hown1 hgrow1)
  have hb1 : Below w.heap.size w w1 := (Below.refl _ _).grown hgrow1 (Nat.le_refl _) (by simp)
  have hs1 : w.heap.size < w1.heap.size := (hown1.lt _ rfl).2
  clear hgrow1
  go_loopw [3, 4] (fun v i wr => ∃ k : Nat, k ≤ len ∧ i = .int .i64 k ∧ v = .slice (some ⟨w.heap.size, 0, none⟩) k (len + 1) ∧
      Hid (wr.ownsRow w.heap.size 50 2 (.slice (some ⟨w.heap.size, 0, none⟩) k (len + 1)) k (el (l.take k))) ∧ Hid (Below w.heap.size w wr)) (fun _ i _ => len - (intOf i).toNat)
  case atStart => exact ⟨0, Nat.zero_le _, rfl, rfl, hown1, hb1⟩
  case round =>
    clear hown1 hb1 hs1
    obtain ⟨k, hk, rfl, rfl, hown, hnx⟩ := hrel
    have hsz := (unhide hnx).size
    have hlt0 := ((unhide hown).lt _ rfl).2
    by_cases hlt : k < len
    · have hc := (unhide HC k hlt).of fun o => (unhide hnx).cell (p := ⟨b, o, none⟩) hb
      have hd := hide (en_take l k (by rw [unhide HL]; exact hlt))
      obtain ⟨c, hx⟩ : ∃ c, c = en l k := ⟨_, rfl⟩
      rw [← hx] at hd
      have hc0 := hc.c0
      have hc1 := hc.c1
      rw [← hx] at hc0 hc1
      clear hc
      obtain ⟨nm, no⟩ := c
      simp only at hc0 hc1
      clear hx
      go_wp2_with (at_builtin; refine wpList_append_fits _ rfl _ _ 44 rfl w.heap.size 50 i0 2 Tryz.underlying44 hi hz1 w.heap.size k (len + 1) _ rfl ((unhide hown).alloc _) ⟨wr.heap.size, 0, none⟩ 1 1 (ec ⟨nm, no⟩) rfl rfl (by exact ent_new _ ⟨nm, no⟩ _) (ent_one _) (by omega) ?_)
      intro w2 hown2 hgrow2
      have hb2 : Hid (Below w.heap.size w w2) := ((unhide hnx).alloc hsz _).grown hgrow2 (by simp; omega) (by simp)
      have ho2 : Hid (w2.ownsRow w.heap.size 50 2 (.slice (some ⟨w.heap.size, 0, none⟩) (k + 1) (len + 1)) (k + 1) (el (l.take (k + 1)))) := by
        have e : el (l.take (k + 1)) = el (l.take k) ++ el [⟨nm, no⟩] := by rw [unhide hd]; simp [el]
        rw [e]; exact hown2
      clear hgrow2 hown hnx hown2 hd
      go_wp2
      go_roundw
      case rel => exact ⟨k + 1, by omega, by go_num, rfl, ho2, hb2⟩
      case measure => simp [intOf]; omega
    · have e : k = len := by omega
      subst e
      have ht : l.take k = l := List.take_of_length_le (by rw [unhide HL]; omega)
      rw [ht] at hown
      go_wp2_with (at_builtin; refine wpList_append_fits _ rfl _ _ 44 rfl w.heap.size 50 i0 2 Tryz.underlying44 hi hz1 w.heap.size k (k + 1) _ rfl ((unhide hown).alloc _) ⟨wr.heap.size, 0, none⟩ 1 1 (ec em) rfl rfl (by exact ent_new _ em _) (ent_one _) (by omega) ?_)
      intro w2 hown2 hgrow2
      have hb2 : Below w.heap.size w w2 := ((unhide hnx).alloc hsz _).grown hgrow2 (by simp; omega) (by simp)
      have hs2 : w.heap.size < w2.heap.size := (hown2.lt _ rfl).2
      have htw := twE_of (unhide HL).symm hown2
      clear hgrow2 hown2
      go_wp2
      go_ret
      exact ⟨rfl, htw, hb2, hs2⟩
set_option maxHeartbeats 800000 in
set_option maxRecDepth 100000 in
theorem twinE_none (a : Option Addr) (cap : Nat) (w : World) :
    Calls Tryz.prog 50 #[.slice a 0 cap] w fun e w' => e = .returned (.slice (some ⟨w.heap.size, 0, none⟩) 0 (0 + 1)) ∧ TwE w' w.heap.size [] ∧ Below w.heap.size w w' ∧ w.heap.size < w'.heap.size := by
  obtain ⟨i0, hi, hz0, hz1, hz2⟩ := info_parts Tryz.infoE
  go_enter Tryz.func50, Tryz.ntmps50
  go_wp2_with (at_make; refine wpList_make_own _ rfl _ _ 44 rfl w.heap.size 50 i0 _ 2 Tryz.underlying44 hi hz0 hz1 _ _ _ (0 + 1) rfl rfl (by omega) (by rw [hz2]; omega) (by unfold maxLen; omega) (Nat.le_refl _) ?_; intro w1 hown1 hgrow1)
  have hb1 : Below w.heap.size w w1 := (Below.refl _ _).grown hgrow1 (Nat.le_refl _) (by simp)
  have hs1 : w.heap.size < w1.heap.size := (hown1.lt _ rfl).2
  clear hgrow1
  refine wp_loop_rounds 1 ?_
  rw [rounds_succ]
  go_wp2_with (at_builtin; refine wpList_append_fits _ rfl _ _ 44 rfl w.heap.size 50 i0 2 Tryz.underlying44 hi hz1 w.heap.size 0 (0 + 1) _ rfl (hown1.alloc _) ⟨w1.heap.size, 0, none⟩ 1 1 (ec em) rfl rfl (by exact ent_new _ em _) (ent_one _) (by omega) ?_)
  intro w2 hown2 hgrow2
  have hb2 : Below w.heap.size w w2 := (hb1.alloc hb1.size _).grown hgrow2 (by simp; omega) (by simp)
  have hs2 : w.heap.size < w2.heap.size := (hown2.lt _ rfl).2
  have htw := twE_of (l := []) rfl hown2
  clear hgrow2 hown2
  go_wp2
  go_ret
  exact ⟨rfl, htw, hb2, hs2⟩
theorem twinE_any (a : Option Addr) (len cap : Nat) (l : List En) (w : World) (h : Eg w a len cap l) (hlen : len ≤ 1048576) :
    Calls Tryz.prog 50 #[.slice a len cap] w fun e w' => e = .returned (.slice (some ⟨w.heap.size, 0, none⟩) len (len + 1)) ∧ TwE w' w.heap.size l ∧ Below w.heap.size w w' ∧ w.heap.size < w'.heap.size := by
  rcases h.cells with rfl | ⟨b, off, rfl, hb, hc⟩
  · obtain rfl : l = [] := List.eq_nil_of_length_eq_zero h.len
    exact twinE_none a cap w
  · exact twinE_some b off len cap l w hc hb h.len hlen

end Go.Proofs.YthmoinagfooncaaGreatDoor.Tr
