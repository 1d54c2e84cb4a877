/- What Octal answers. -/
import Derived.Test.YtijknodbaddelabDoorMoText
namespace Go.Proofs.YtijknodbaddelabDoor.Mo
open Go.RowKit Go.Shelf

/-- a builder at b whose bytes lie at R or behind -/
def Bd (R b : Nat) (l : Bs) (w : World) : Prop := ∃ p v, (p = .pointer none ∨ p = .pointer (some ⟨b, 0, none⟩)) ∧ w.heap[b]? = some (.cells #[p, v] 60 (0, 0)) ∧ w.ownsRow R 5 1 v l.length (Lib.byteCells l) ∧ v.ownBlock ≠ some b
/-- what lies below R, but for b, stays -/
def Kb (R b : Nat) (w w' : World) : Prop := w.heap.size ≤ w'.heap.size ∧ ∀ k, k < R → k < w.heap.size → k ≠ b → w'.heap[k]? = w.heap[k]?
theorem base_to {w : World} {R B : Nat} {e : TypeId} {size : Nat} {v : Value} {n : Nat} {xs : List Value} (h : w.ownsRow R e size v n xs) (hb : B ≤ R) : w.ownsRow B e size v n xs := by
  refine ⟨h.1, ?_⟩
  rcases h.2 with hn | ⟨g, cap, cur, rfl, hg, rest⟩
  · exact .inl hn
  · exact .inr ⟨g, cap, cur, rfl, by omega, rest⟩
theorem Bd.isB {R b B : Nat} {l : Bs} {w : World} (h : Bd R b l w) (h1 : B ≤ b) (h2 : B ≤ R) : IsB B b l w := by
  obtain ⟨p, v, hp, hb, ho, hn⟩ := h
  have ho' : w.ownsRow B 5 1 v (Lib.byteCells l).length (Lib.byteCells l) := by rw [cells_len]; exact base_to ho h2
  rcases hp with rfl | rfl
  · exact .inl ⟨h1, v, hb, ho', hn⟩
  · exact .inr ⟨h1, v, hb, ho', hn⟩
set_option maxHeartbeats 1000000 in
set_option maxRecDepth 100000 in
theorem writeByte_bd (R b : Nat) (l : Bs) (c : UInt8) (w : World) (h : Bd R b l w) (hlen : l.length + 1 ≤ 1000000) (hR : R ≤ w.heap.size) :
    Calls Tryd.prog 22 #[.pointer (some ⟨b, 0, none⟩), .int .u8 c.toNat] w fun e w' => e = .returned .nilIface ∧ Bd R b (l ++ [c]) w' ∧ Kb R b w w' ∧ w'.os = w.os ∧ w'.tape = w.tape ∧ w'.output = w.output := by
  obtain ⟨i0, hi, hz0, hz1, hz2⟩ := info_parts Tryd.sextra.infoByte
  obtain ⟨p, v, hp, hb, ho, hn⟩ := h
  have hlt : b < w.heap.size := (Array.getElem?_eq_some_iff.1 hb).1
  have HCC : Hid (Calls Tryd.prog 33 #[.pointer (some ⟨b, 0, none⟩)] w fun e w' => e = .returned (.tuple #[]) ∧ w'.heap[b]? = some (.cells #[.pointer (some ⟨b, 0, none⟩), v] 60 (0, 0)) ∧ w.grownBy w' (some b)) := by
    rcases hp with rfl | rfl
    · refine (Ln.copyCheck_fresh b w (by rw [Lib.cell_of_heap hb]; rfl) (by simp [World.shape?, hb]) (Lib.frozen_of_heap hb 0)).mono ?_
      rintro e w' ⟨rfl, rfl⟩
      refine ⟨rfl, ?_, ⟨rfl, rfl, rfl, by simp, fun k _ hk => Below.heap_setCell _ _ _ k (fun e => hk (by rw [e]))⟩⟩
      rw [heap_setCell_same _ _ _ _ _ _ hb]; rfl
    · refine (Ln.copyCheck_used b w (by rw [Lib.cell_of_heap hb]; rfl)).mono ?_
      rintro e w' ⟨rfl, rfl⟩
      exact ⟨rfl, hb, ⟨rfl, rfl, rfl, Nat.le_refl _, fun _ _ _ => rfl⟩⟩
  have HO := hide ho
  have HN := hide hn
  clear hp hb ho hn
  go_enter Tryd.func22, Tryd.ntmps22
  go_wp2_with fail
  refine (unhide HCC).mono ?_
  rintro e w1 ⟨rfl, hb1, hg1⟩
  have hown1 := (unhide HO).kept hg1 (.inr (unhide HN))
  have c1 : w1.cell? ⟨b, 1, none⟩ = some v := by rw [Lib.cell_of_heap hb1]; rfl
  have hlt1 : b < w1.heap.size := Nat.lt_of_lt_of_le hlt hg1.size
  have HB1 := hide hb1
  have HG1 := hide hg1
  have hz1' := hg1.size
  clear HCC hb1 hg1
  go_wp2_with (at_builtin; refine wpList_append_own _ rfl _ _ 58 rfl R 5 i0 (.int .u8 0) 1 1 Tryd.underlying58 hi hz0 hz1 hz2 rfl (by decide) _ _ _ rfl (hown1.alloc _) ⟨w1.heap.size, 0, none⟩ 1 1 [.int .u8 c.toNat] rfl rfl (Ln.byte_new _ _ _) (Ln.byte_one _) (by unfold maxLen; omega) (by omega) (by simp; omega) ?_)
  intro v' w2 hown' hgrow _
  have hgr := Ln.grown_two hgrow
  have hb2 : w2.heap[b]? = some (.cells #[.pointer (some ⟨b, 0, none⟩), v] 60 (0, 0)) := (hgr.block b hlt1 (unhide HN).symm).trans (unhide HB1)
  have d1 : w2.cell? ⟨b, 1, none⟩ = some v := by rw [Lib.cell_of_heap hb2]; rfl
  have f1 : w2.frozen? ⟨b, 1, none⟩ = false := Lib.frozen_of_heap hb2 1
  have hne' : v'.ownBlock ≠ some b := by
    intro e
    obtain ⟨_, cur, hc⟩ := own_block hown' b e
    rw [hb2] at hc
    exact absurd hc (by intro h; injection h with h; injection h with _ h _; exact absurd h (by decide))
  have HFIN : Hid (Bd R b (l ++ [c]) (w2.setCell ⟨b, 1, none⟩ v') ∧ Kb R b w (w2.setCell ⟨b, 1, none⟩ v') ∧ w2.os = w.os ∧ w2.tape = w.tape ∧ w2.output = w.output) := by
    refine ⟨⟨.pointer (some ⟨b, 0, none⟩), v', .inr rfl, by rw [heap_setCell_same _ _ _ _ _ _ hb2]; rfl, ?_, hne'⟩, ⟨?_, ?_⟩, hgr.os.trans (unhide HG1).os, hgr.tape.trans (unhide HG1).tape, hgr.output.trans (unhide HG1).output⟩
    · have h2 : w2.ownsRow R 5 1 v' (l ++ [c]).length (Lib.byteCells (l ++ [c])) := by rw [cells_snoc]; simpa using hown'
      exact h2.kept (row := some b) ⟨rfl, rfl, rfl, by simp, fun k _ hk => Below.heap_setCell _ _ _ k (fun e => hk (by rw [e]))⟩ (.inr hne')
    · have := hgr.size; simp; omega
    · intro k hk1 hk2 hk3
      refine (Below.heap_setCell _ _ _ k hk3).trans ((hgr.block k (by omega) (fun e => ?_)).trans ((unhide HG1).block k hk2 (fun e => hk3 (Option.some.inj e))))
      have := (hown1.lt k e.symm).1
      omega
  obtain ⟨g, cap, rfl⟩ := Ln.ownsRow_some hown'
  clear hown' hgrow hgr hb2 hne' hown1 HB1 HG1 HN HO
  go_wp2
  go_ret
  exact ⟨rfl, (unhide HFIN).1, (unhide HFIN).2.1, (unhide HFIN).2.2⟩

def digP (mode : Int) (c : UInt8) : UInt8 := UInt8.ofNat (48 + partP mode c)
def octP (mode : Int) : Bs := [digP mode 117, digP mode 103, digP mode 111]
theorem digP_nat (mode : Int) (c : UInt8) : (digP mode c).toNat = 48 + partP mode c := by
  have := partP_lt mode c
  unfold digP
  simp; omega
def ltr (i : Nat) : UInt8 := if i = 0 then 117 else if i = 1 then 103 else 111
def octTo (mode : Int) (i : Nat) : Bs := (List.range i).map fun j => digP mode (ltr j)
theorem octTo_snoc (mode : Int) (i : Nat) : octTo mode (i + 1) = octTo mode i ++ [digP mode (ltr i)] := by unfold octTo; rw [List.range_succ]; simp
theorem octTo_len (mode : Int) (i : Nat) : (octTo mode i).length = i := by unfold octTo; simp
set_option maxHeartbeats 1000000 in
set_option maxRecDepth 100000 in
theorem octal_any (mode : Int) (w : World) :
    Calls Tryd.prog 14 #[.int .i64 mode] w fun e w' => e = .returned (.string ⟨(octP mode).toArray⟩) ∧ Below w.heap.size w w' := by
  obtain ⟨W0, HW0⟩ : ∃ W, Hid (W = (w.alloc (.cells #[.pointer none, .slice none 0 0] 60)).alloc (.cells #[.int .u8 117, .int .u8 103, .int .u8 111] 5)) := ⟨_, rfl⟩
  have HB0 : Hid (Below w.heap.size w W0) := by rw [unhide HW0]; exact ((Below.refl _ _).alloc (Nat.le_refl _) _).alloc (by simp) _
  have hz0 : w.heap.size + 2 = W0.heap.size := by rw [unhide HW0]; simp
  have HL0 : Hid (W0.heap[w.heap.size + 1]? = some (.cells #[.int .u8 117, .int .u8 103, .int .u8 111] 5 (0, 0))) := by
    rw [unhide HW0]
    have := heap_alloc_new (w.alloc (.cells #[.pointer none, .slice none 0 0] 60)) (.cells #[.int .u8 117, .int .u8 103, .int .u8 111] 5)
    rw [World.size_alloc] at this
    exact this
  have HI0 : Hid (Bd (w.heap.size + 2) w.heap.size [] W0) := by
    refine ⟨.pointer none, .slice none 0 0, .inl rfl, ?_, World.ownsRow_nil _ _ _ _, by simp [Value.ownBlock]⟩
    rw [unhide HW0]
    exact (Below.heap_alloc _ _ _ (by simp)).trans (heap_alloc_new w _)
  go_enter Tryd.func14, Tryd.ntmps14
  go_wp2_with fail
  rw [← unhide HW0]
  clear HW0
  go_loopw [8] (fun v wr => ∃ k : Nat, k ≤ 3 ∧ v = .int .i64 k ∧ Hid (wr.heap[w.heap.size + 1]? = some (.cells #[.int .u8 117, .int .u8 103, .int .u8 111] 5 (0, 0))) ∧ Hid (Bd (w.heap.size + 2) w.heap.size (octTo mode k) wr) ∧ Hid (Below w.heap.size w wr) ∧ w.heap.size + 2 ≤ wr.heap.size) (fun v _ => 3 - (intOf v).toNat)
  case atStart => exact ⟨0, by omega, rfl, HL0, HI0, HB0, by omega⟩
  case round =>
    clear HL0 HI0 HB0 hz0
    obtain ⟨k, hk, rfl, HL, HI, HB, hsz⟩ := hrel
    by_cases hlt : k < 3
    · have hlt' : (k : Int) < 3 := by omega
      have hc : wr.cell? ⟨w.heap.size + 1, k, none⟩ = some (.int .u8 (ltr k).toNat) := by
        rw [cell_of_row _ _ _ _ _ _ (unhide HL)]
        match k, hlt with
        | 0, _ => rfl
        | 1, _ => rfl
        | 2, _ => rfl
      have HP := hide (partOf_any mode (ltr k) wr)
      obtain ⟨q, HQ⟩ : ∃ q, Hid (q = partP mode (ltr k)) := ⟨_, rfl⟩
      have hq : q < 8 := by rw [unhide HQ]; exact partP_lt _ _
      rw [← unhide HQ] at HP
      have hsn := hide (octTo_snoc mode k)
      have hd : Hid ((48 : Int) + (q : Int) = ((digP mode (ltr k)).toNat : Int)) := by show _ = _; rw [digP_nat, unhide HQ]; push_cast; rfl
      have HWB := hide (writeByte_bd (w.heap.size + 2) w.heap.size (octTo mode k) (digP mode (ltr k)) wr (unhide HI) (by rw [octTo_len]; omega) hsz)
      rw [← unhide hd] at HWB
      go_wp2_with fail
      refine (unhide HP).mono ?_
      rintro e w1 ⟨rfl, hw1⟩
      rw [hw1]
      clear hw1 HP
      go_wp2_with fail
      refine (unhide HWB).mono ?_
      rintro e w4 ⟨rfl, hI4, hk4, ho4, ht4, hu4⟩
      have hI5 : Hid (Bd (w.heap.size + 2) w.heap.size (octTo mode (k + 1)) w4) := by rw [unhide hsn]; exact hI4
      have hL5 : Hid (w4.heap[w.heap.size + 1]? = some (.cells #[.int .u8 117, .int .u8 103, .int .u8 111] 5 (0, 0))) := (hk4.2 _ (by omega) (by omega) (by omega)).trans (unhide HL)
      have hB5 : Hid (Below w.heap.size w w4) := ⟨ho4.trans (unhide HB).os, ht4.trans (unhide HB).tape, hu4.trans (unhide HB).output, Nat.le_trans (unhide HB).size hk4.1, fun j hj => (hk4.2 j (by omega) (by omega) (by omega)).trans ((unhide HB).block j hj)⟩
      have hsz4 : w.heap.size + 2 ≤ w4.heap.size := Nat.le_trans hsz hk4.1
      clear hI4 hk4 ho4 ht4 hu4 HI HL HB HWB hc hd hsn
      go_wp2_with fail
      go_roundw
      case rel => exact ⟨k + 1, by omega, by go_num, hL5, hI5, hB5, hsz4⟩
      case measure => simp [intOf]; omega
    · obtain rfl : k = 3 := by omega
      have HS := hide (Ln.string_any w.heap.size w.heap.size (octTo mode 3) wr ((unhide HI).isB (Nat.le_refl _) (by omega)) (unhide HB).size)
      clear HI HL
      go_wp2_with fail
      refine (unhide HS).mono ?_
      rintro e w5 ⟨rfl, hb5⟩
      have hB5 : Hid (Below w.heap.size w w5) := (unhide HB).trans hb5
      clear HS hb5
      go_wp2_with fail
      go_ret
      exact ⟨rfl, unhide hB5⟩
end Go.Proofs.YtijknodbaddelabDoor.Mo
