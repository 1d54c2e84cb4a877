/- What the document's Join answers. -/
import Derived.Test.YtbamldjifempfaaLnJoin
import Derived.Lib.BufferRead
namespace Go.Proofs.Ytbamldjifempfaa.Pa
open Go.RowKit Go.Shelf

theorem Try.infoByte : (Try.prog.info? 5).map (fun i => (i.zero, i.size, i.bytes)) = some (some (.int .u8 0), 1, 1) := by kernel_rfl

theorem conv_to (x : ByteArray) (W : World) : ∃ (c : Nat) (o : Obj), (convert 9 39 (.string x)).run Try.prog W = .ok (.slice (some ⟨W.heap.size, 0, none⟩) x.size c) (W.alloc o).drew ∧ (∀ j u, (Lib.strCells x)[j]? = some u → (W.alloc o).cell? ((⟨W.heap.size, 0, none⟩ : Addr).add j) = some u) := by
  refine ⟨_, _, run_bytes_of_string W 9 39 5 x Try.underlying9 Try.underlying39 Try.underlying5, ?_⟩
  intro j u hj
  have hj' : j < x.data.size := by
    have := (List.getElem?_eq_some_iff.1 hj).1
    simpa [Lib.strCells] using this
  rw [add_none, Nat.zero_add, Lib.cell_of_heap (heap_alloc_new W _)]
  rw [← hj]
  unfold bytesRow
  rw [Array.getElem?_append_left (by simpa using hj')]
  simp [Lib.strCells]

theorem conv_back {W : World} {base : Nat} {v : Value} (l : List UInt8) (h : W.ownsRow base 5 1 v l.length (Lib.byteCells l)) : (convert 39 9 v).run Try.prog W = .ok (.string ⟨l.toArray⟩) W := by
  rcases h.2 with ⟨rfl, h0⟩ | ⟨g, cap, cur, rfl, _⟩
  · obtain rfl : l = [] := List.eq_nil_of_length_eq_zero h0
    exact Lib.run_convert_nil_bytes W 39 9 5 0 Try.underlying39 Try.underlying5 Try.underlying9
  · refine run_convert_bytes_back W 39 9 5 ⟨g, 0, none⟩ cap l Try.underlying39 Try.underlying5 Try.underlying9 ?_
    intro j hj
    exact h.cells (g := g) rfl j _ (by simp [Lib.byteCells, List.getElem?_eq_getElem hj])

set_option maxHeartbeats 2000000 in
set_option maxRecDepth 100000 in
theorem refJoin_some (b off n cap : Nat) (ss : List ByteArray) (w : World) (hc : ∀ i, i < n → w.cell? ⟨b, off + i, none⟩ = some (.string (ss.getD i ByteArray.empty))) (hb : b < w.heap.size) (hl : ss.length = n) (htot : ss.length + tot ss ≤ 4194304) :
    Calls Try.prog 12 #[.slice (some ⟨b, off, none⟩) n cap] w fun e w' => e = .returned (.string ⟨(joinL ss).toArray⟩) ∧ Below w.heap.size w w' := by
  obtain ⟨i0, hi, hz0, hz1, hz2⟩ := info_parts Try.infoByte
  have HC := hide hc
  have HL := hide hl
  have hn : n ≤ 4194304 := by omega
  have HT : Hid (∀ k, (joinL (ss.take k)).length ≤ 4194304) := fun k => joinL_take_len ss k htot
  have HT2 : Hid (∀ k, k < n → (ss.getD k ByteArray.empty).size + (joinL (ss.take k)).length + 1 ≤ 4194304) := fun k hk => by
    have h1 := joinL_take_len ss (k + 1) htot
    rw [joinL_snoc (by omega), List.length_append, List.length_append] at h1
    have e : ((ss.getD k ByteArray.empty).data.toList).length = (ss.getD k ByteArray.empty).size := rfl
    simp at h1 ⊢
    omega
  clear hc hl htot
  go_enter Try.func12, Try.ntmps12
  go_wp2_with fail
  go_loopw [3, 4] (fun v i wr => ∃ k : Nat, k ≤ n ∧ i = .int .i64 k ∧ Hid (wr.ownsRow w.heap.size 5 1 v (joinL (ss.take k)).length (Lib.byteCells (joinL (ss.take k)))) ∧ Hid (Below w.heap.size w wr)) (fun _ i _ => n - (intOf i).toNat)
  case atStart => exact ⟨0, Nat.zero_le _, rfl, World.ownsRow_nil _ _ _ _, Below.refl _ _⟩
  case round =>
    obtain ⟨k, hk, rfl, hO, hB⟩ := hrel
    have hsz := (unhide hB).size
    by_cases hlt : k < n
    · have hlt' : (k : Int) < (n : Int) := by omega
      have hcell : wr.cell? ⟨b, off + k, none⟩ = some (.string (ss.getD k ByteArray.empty)) := ((unhide hB).cell hb).trans (unhide HC k hlt)
      have hj := hide (joinL_snoc (ss := ss) (k := k) (by rw [unhide HL]; exact hlt))
      have hm := unhide HT2 k hlt
      obtain ⟨x, hx⟩ : ∃ x, x = ss.getD k ByteArray.empty := ⟨_, rfl⟩
      rw [← hx] at hcell hj hm
      clear hx
      obtain ⟨c, o, hcv, hnews⟩ := conv_to x wr
      go_wp2_with (at_builtin; refine wpList_append_own _ rfl _ _ 39 rfl w.heap.size 5 i0 (.int .u8 0) 1 1 Try.underlying39 hi hz0 hz1 hz2 rfl (by decide) _ _ _ rfl ((unhide hO).alloc o) ⟨wr.heap.size, 0, none⟩ x.size c (Lib.strCells x) rfl (by rw [Lib.strCells_length]; omega) hnews (Lib.strCells_oneCell x) (by unfold maxLen; omega) (by omega) (by simp; omega) ?_)
      intro v1 w1 hO1 hg1 _
      have hB1 : Hid (Below w.heap.size w w1) := ((unhide hB).alloc hsz o).drew.grown hg1 (by simp; omega) (fun j ej => ((unhide hO).lt j ej).1)
      have hsz1 := (unhide hB1).size
      clear hO hB hg1 hcell hcv hnews
      obtain ⟨a1, n1, c1, rfl⟩ := Ln.ownsRow_slice hO1
      go_wp2_with (at_builtin; refine wpList_append_own _ rfl _ _ 39 rfl w.heap.size 5 i0 (.int .u8 0) 1 1 Try.underlying39 hi hz0 hz1 hz2 rfl (by decide) _ _ _ rfl (hO1.alloc _) ⟨w1.heap.size, 0, none⟩ 1 1 [.int .u8 10] rfl rfl (Ln.byte_new _ _ _) (Ln.byte_one _) (by unfold maxLen; omega) (by omega) (by simp; omega) ?_)
      intro v2 w2 hO2 hg2 _
      have hB2 : Hid (Below w.heap.size w w2) := ((unhide hB1).alloc hsz1 _).grown hg2 (by simp; omega) (fun j ej => (hO1.lt j ej).1)
      have hO3 : Hid (w2.ownsRow w.heap.size 5 1 v2 (joinL (ss.take (k + 1))).length (Lib.byteCells (joinL (ss.take (k + 1))))) := by
        show w2.ownsRow _ _ _ _ _ _
        rw [unhide hj, Lib.byteCells_append, Lib.byteCells_append, List.length_append, List.length_append, List.append_assoc]
        exact hO2
      clear hO1 hO2 hB1 hg2
      obtain ⟨a2, n2, c2, rfl⟩ := Ln.ownsRow_slice (unhide hO3)
      go_wp2_with fail
      go_roundw
      case rel => exact ⟨k + 1, by omega, by go_num, hO3, hB2⟩
      case measure => simp [intOf]; omega
    · have e : ss.take k = ss := List.take_of_length_le (by rw [unhide HL]; omega)
      rw [e] at hO
      have hcv := conv_back _ (unhide hO)
      obtain ⟨a2, n2, c2, rfl⟩ := Ln.ownsRow_slice (unhide hO)
      go_wp2_with fail
      go_ret
      exact ⟨rfl, unhide hB⟩

set_option maxHeartbeats 1000000 in
theorem refJoin_none (a : Option Addr) (cap : Nat) (w : World) :
    Calls Try.prog 12 #[.slice a 0 cap] w fun e w' => e = .returned (.string ⟨(joinL []).toArray⟩) ∧ Below w.heap.size w w' := by
  have hcv := conv_back [] (World.ownsRow_nil w 0 5 1)
  go_enter Try.func12, Try.ntmps12
  go_wp2_with fail
  refine wp_loop_rounds 1 ?_
  rw [rounds_succ]
  go_wp2_with fail
  go_ret
  exact ⟨rfl, Below.refl _ _⟩

theorem refJoin_any (a : Option Addr) (n cap : Nat) (ss : List ByteArray) (w : World) (h : Tx w a n cap ss) (htot : ss.length + tot ss ≤ 4194304) :
    Calls Try.prog 12 #[.slice a n cap] w fun e w' => e = .returned (.string ⟨(joinL ss).toArray⟩) ∧ Below w.heap.size w w' := by
  rcases h.cells with rfl | ⟨b, off, rfl, hb, hc⟩
  · obtain rfl : ss = [] := List.eq_nil_of_length_eq_zero h.len
    exact refJoin_none a cap w
  · exact refJoin_some b off n cap ss w hc hb h.len htot
end Go.Proofs.Ytbamldjifempfaa.Pa
